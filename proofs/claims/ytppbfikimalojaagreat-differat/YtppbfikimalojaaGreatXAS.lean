/-
  XAS.
-/
import Derived.Test.YtppbfikimalojaaGreatXAR
import Derived.Test.YtppbfikimalojaaGreatXLy
import Derived.Test.YtppbfikimalojaaGreatXAQ
import Derived.Test.YtppbfikimalojaaGreatXAI
import Derived.Test.YtppbfikimalojaaGreatXAA
import Derived.Laws.AppendOwnNone
import Derived.Lib.SliceRun
import Derived.ChangeKeysEq
import Derived.Test.YtppbfikimalojaaGreatXAO
set_option maxHeartbeats 8000000
set_option maxRecDepth 100000
namespace Go.Proofs.YtppbfikimalojaaGreat
open Tryz
open Go.RowKit Go.Maps
theorem pZ(V:f8->d7->World->Prop)(d:Dv)(i:Nat)(ls:List Lk)(T:Tab)(k:Int)(S nb sb kb mb b o n cap cl:Nat)(L:Option Addr)(d8:Nat)(vb vr vt:Value)(Q0:d7)(w:World)(hop0:(peerF ls (i:Int) 1).isSome=true)(hi:(i:Int)<(n:Int))(hk:d.kind=4)
  (H:Hid (DV V d i ls T k S nb sb kb mb (.agg #[.slice (some ⟨b,o,none⟩) n cap,.slice L cl d8]) vr vt)) (V0:V [] Q0 w)
  (HD:Hid (∀bx Q W,V bx Q W->W.cell? ⟨b,o+i*7,none⟩=some (.string d.name)/\W.cell? ⟨b,o+i*7+1,none⟩=some (.int .i64 d.kind)/\W.cell? ⟨b,o+i*7+2,none⟩=some (.int .i64 d.addr)/\W.cell? ⟨b,o+i*7+3,none⟩=some (.int .u8 (d.pool:Int))/\W.cell? ⟨b,o+i*7+4,none⟩=some vb/\W.cell? ⟨b,o+i*7+5,none⟩=some vr/\W.cell? ⟨b,o+i*7+6,none⟩=some vt))
  (hv:(∃A n c,vb=.slice A n c)/\(∃A n c,vr=.slice A n c)/\∃A n c,vt=.slice A n c)
  (n0:Nat) (HL:Hid (DL V n0)) (ha:0<=d.addr/\d.addr<16) (hpl:d.pool<256) :
  Calls prog 38 #[.pointer (some ⟨S,0,none⟩),.agg #[.slice (some ⟨b,o,none⟩) n cap,.slice L cl d8],.int .i64 (i:Int),.int .i64 k,.func (.func 36) #[] #[.pointer (some ⟨nb,0,none⟩),.pointer (some ⟨sb,0,none⟩),.pointer (some ⟨kb,0,none⟩),.pointer (some ⟨mb,0,none⟩)]] w λe w'=>e=.returned (.tuple #[])/\∃os:List Pk,dt (i:Int) T k os/\V [] (un Q0 (K9 ((2:Nat):Int) (one4 d (i:Int) ls T k os))) w':=by
 obtain⟨⟨Ab,nbb,cb,rfl⟩,⟨Ar,nr,cr,rfl⟩,⟨At,nt,ct,rfl⟩⟩:=hv;have i0:(0:Int)<=(i:Int):=by omega
 have PO:Hid (∀W:World,Calls prog 19 #[.int .i64 4] W λe w'=>e=.returned (.int .i64 2)/\Below W.heap.size W w'):=λW=>aT 4 W;have PK:Hid (∀(c:Nat) (W:World),c<16384->Calls prog 21 #[.int .i64 (c:Int)] W λe w'=>e=.returned (pkV (pkN c))/\Below W.heap.size W w'):=λc W hc=>rpacket_any c W hc;have V1:=H.out.new V0 #[.slice (some ⟨b,o,none⟩) n cap,.slice L cl d8] 25;obtain⟨c0,c1,c2,c3,c4,c5,c6⟩:=HD.out _ _ _ V1;rw[hk]at c1;have N1:=(i7 w #[.slice (some ⟨b,o,none⟩) n cap,.slice L cl d8] 25);obtain⟨n1,n2⟩:=N1.two;clear V0 HD N1;go_enter func38,ntmps38;go_upto_region 2 with fail;have V2:=H.out.new V1 #[.string d.name,.int .i64 4,.int .i64 d.addr,.int .u8 (d.pool:Int),.slice Ab nbb cb,.slice Ar nr cr,.slice At nt ct] 56;rw[World.size_alloc]at V2;clear V1 c0 c1 c2 c3 c4 c5 c6 n1 n2;generalize (w.alloc (.cells #[.slice (some ⟨b,o,none⟩) n cap,.slice L cl d8] 25)).alloc (.cells #[.string d.name,.int .i64 4,.int .i64 d.addr,.int .u8 (d.pool:Int),.slice Ab nbb cb,.slice Ar nr cr,.slice At nt ct] 56)=w2 at *;generalize w.heap.size=y at *;obtain⟨n1,n2⟩:=(H.out.get V2 (_,_,_) (List.mem_cons_of_mem _ List.mem_cons_self)).two;have PE:=H.out.peer V2 1;obtain⟨p1,p2,hpl⟩:∃p1 p2:Int,E9 (peerF ls i 1)=.agg #[.int .i64 p1,.int .i64 p2]:=by cases peerF ls i 1 <;> exact⟨_,_,rfl⟩
 rw[hpl]at PE;rw[hop0]at PE;clear hpl;go_wp2_with fail;refine PE.mono ?_;rintro e w3⟨rfl,V3⟩;clear PE V2 n1 n2;have V4:=H.out.new V3 #[.int .i64 p1,.int .i64 p2] 27;clear V3;go_upto_region 3 with fail;generalize w3.alloc (.cells #[.int .i64 p1,.int .i64 p2] 27)=w4 at *;generalize w3.heap.size=z at *;obtain⟨BX,hBX⟩:∃BX:f8,BX=[(z,#[.int .i64 p1,.int .i64 p2],27),(y+1,#[.string d.name,.int .i64 4,.int .i64 d.addr,.int .u8 (d.pool:Int),.slice Ab nbb cb,.slice Ar nr cr,.slice At nt ct],56),(y,#[.slice (some ⟨b,o,none⟩) n cap,.slice L cl d8],25)]:=⟨_,rfl⟩;rw[<- hBX]at V4;have BD:Hid (∀{Q:d7} {W:World},V BX Q W->W.cell? ⟨y+1,0,none⟩=some (.string d.name)/\W.cell? ⟨y+1,1,none⟩=some (.int .i64 4)/\W.cell? ⟨y+1,2,none⟩=some (.int .i64 d.addr)/\W.cell? ⟨y+1,3,none⟩=some (.int .u8 (d.pool:Int))/\W.cell? ⟨y+1,4,none⟩=some (.slice Ab nbb cb)/\W.cell? ⟨y+1,5,none⟩=some (.slice Ar nr cr)/\W.cell? ⟨y+1,6,none⟩=some (.slice At nt ct)):=λ{Q W} hv=>by
  rw[hBX]at hv;have B:=H.out.get hv (_,_,_) (List.mem_cons_of_mem _ List.mem_cons_self);exact⟨B.at 0,B.at 1,B.at 2,B.at 3,B.at 4,B.at 5,B.at 6⟩
 have GP:Hid (∀{x:Nat} {s0 s1 s2 s3:Int} {bx:f8} {Q:d7} {W:World},V ((x,#[.int .i64 s0,.int .i64 s1,.int .i64 s2,.int .i64 s3],29)::bx) Q W->W.cell? ⟨x,0,none⟩=some (.int .i64 s0)/\W.cell? ⟨x,1,none⟩=some (.int .i64 s1)/\W.cell? ⟨x,2,none⟩=some (.int .i64 s2)/\W.cell? ⟨x,3,none⟩=some (.int .i64 s3)):=λ{x s0 s1 s2 s3 bx Q W} hv=>by
  obtain⟨a0,a1,a2,a3,_⟩:=(H.out.get hv (_,_,_) List.mem_cons_self).four;exact⟨a0,a1,a2,a3⟩
 have BT:Hid (∀{y':Nat × Array Value × TypeId} {Q:d7} {W:World},V (y'::BX) Q W->V BX Q W):=λ{y' Q W} hv=>H.out.less hv (λy hy=>List.mem_cons_of_mem _ hy);have HLT:Hid (∀y'∈BX,y'.1<w4.heap.size):=λy' hy'=>(H.out.get V4 y' hy').lt;have hn0:=HL.out.up V4;have HA:Hid (∀(b:Nat) (n:Int) (W:World),b<65536->Calls prog 77 #[.int .i64 (b:Int),.int .i64 n] W λe w'=>e=.returned (.bool (p7 b n))/\w'=W):=λb n W h=>rhas_int b n W h;have hpool:∀n:Int,0<=n/\n<8->p7 d.pool n=poolB d n:=λn hn=>by
  unfold p7 poolB poB;rw[show decide (n<8)=true from decide_eq_true hn.2];simp
 have O1:Hid (∃(v:Value) (os:List Pk) (OB:f8),v=v):=⟨.slice none 0 0,[],[],rfl⟩;clear O1;generalize hhb:w4.heap.size=hb at *;have hhb':hb<=w4.heap.size:=by omega
 clear hhb;obtain⟨_,d1,_⟩:=BD.out V4;have OW0:w4.ownsRow hb 29 4 (.slice none 0 0) 0 (E8 []):=⟨by simp[E8],Or.inl ⟨rfl,rfl⟩⟩;go_wp2_with fail;go_loopw[13,14] (λs13 s14 wr=>∃(c:Nat) (os:List Pk) (A:Option Addr) (cap:Nat),s13=.slice A os.length cap/\s14=.int .i64 (c:Int)/\c<=128/\os.length<=c/\V BX Q0 wr/\hb<=wr.heap.size/\wr.ownsRow hb 29 4 (.slice A os.length cap) os.length (E8 os)/\Hid (W9 (i:Int) T k c os)) (λ_ s14 _=>128-(intOf s14).toNat)
 case atStart=>exact⟨0,[],none,0,rfl,rfl,by omega,by simp,V4,hhb',OW0,oA⟩
 case round =>
  clear V4 d1 OW0 hhb';obtain⟨c,os,A,cpo,rfl,rfl,hc,hol,V5,hhb',OW,hO⟩:=hrel;obtain⟨_,d1,_⟩:=BD.out V5;by_cases hlt:c<128
  ·as_aux_lemma =>
    skip
    have c1:(c:Int)<128:=by omega
    have hnew:=H.out.new V5 #[.int .i64 ((c:Int) / 8),.int .i64 0,.int .i64 ((c:Int) % 8),.int .i64 0] 29;have es:((c / 8:Nat):Int)=(c:Int) / 8:=by omega
    have ep:((c % 8:Nat):Int)=(c:Int) % 8:=by omega
    have OWn:=cT OW (KeptBS.of_below (Below.alN (Below.refl wr.heap.size wr) (.cells #[.int .i64 ((c:Int) / 8),.int .i64 0,.int .i64 ((c:Int) % 8),.int .i64 0] 29))) (λg _=>by simp);have hne:Hid (∀g,(Value.slice A os.length cpo).ownBlock=some g->g≠wr.heap.size):=λg hg=>by
     have:=(q9 OW hg).1;omega
    have hbx:Hid (∀y'∈BX,y'.1≠wr.heap.size):=λy' hy'=>by
     have:=(H.out.get V5 y' hy').lt;omega
    obtain⟨U,hU⟩:∃U:Int->Int->World->Prop,U=λa' b' W=>V ((wr.heap.size,#[.int .i64 ((c:Int) / 8),.int .i64 a',.int .i64 ((c:Int) % 8),.int .i64 b'],29)::BX) Q0 W/\hb<=W.heap.size/\W.ownsRow hb 29 4 (.slice A os.length cpo) os.length (E8 os):=⟨_,rfl⟩;have U0:U 0 0 (wr.alloc (.cells #[.int .i64 ((c:Int) / 8),.int .i64 0,.int .i64 ((c:Int) % 8),.int .i64 0] 29)):=by
     rw[hU];exact⟨hnew,by simp;omega,OWn⟩
    have UG:Hid (∀{a' b':Int} {W:World},U a' b' W->W.cell? ⟨wr.heap.size,0,none⟩=some (.int .i64 ((c:Int) / 8))/\W.cell? ⟨wr.heap.size,1,none⟩=some (.int .i64 a')/\W.cell? ⟨wr.heap.size,2,none⟩=some (.int .i64 ((c:Int) % 8))/\W.cell? ⟨wr.heap.size,3,none⟩=some (.int .i64 b')/\W.frozen? ⟨wr.heap.size,1,none⟩=false/\W.frozen? ⟨wr.heap.size,3,none⟩=false):=λ{a' b' W} hu=>by
     rw[hU]at hu;obtain⟨a0,a1,a2,a3,_,a4,_,a5⟩:=(H.out.get hu.1 (_,_,_) List.mem_cons_self).four;exact⟨a0,a1,a2,a3,a4,a5⟩
    have US:Hid (∀{a' b':Int} {W:World} (a2 b2:Int),U a' b' W->U a2 b2 ((W.setCell ⟨wr.heap.size,1,none⟩ (.int .i64 a2)).setCell ⟨wr.heap.size,3,none⟩ (.int .i64 b2))):=λ{a' b' W} a2 b2 hu=>by
     rw[hU]at hu ⊢;obtain⟨u1,u2,u3⟩:=hu;refine⟨?_,?_,?_⟩
     ·exact H.out.set (H.out.set u1 hbx.out 1 (.int .i64 a2)) hbx.out 3 (.int .i64 b2)
     ·simpa[World.setCell]using u2
     ·exact cT (cT u3 (kz _ _ _ _) (λg hg e=>hne.out g hg (by simpa using e.symm))) (kz _ _ _ _) (λg hg e=>hne.out g hg (by simpa using e.symm))
    have UC:Hid (∀{a' b':Int} {W:World},i8 ⟨(c:Int) / 8,a',(c:Int) % 8,b'⟩=true->U a' b' W->Calls prog 37 #[.agg #[.int .i64 ((c:Int) / 8),.int .i64 a',.int .i64 ((c:Int) % 8),.int .i64 b']] W λe w'=>e=.returned (.int .i64 (codeN ⟨(c:Int) / 8,a',(c:Int) % 8,b'⟩:Int))/\U a' b' w'):=λ{a' b' W} hp hu=>(dI ⟨(c:Int) / 8,a',(c:Int) % 8,b'⟩ W hp).mono λe w' ⟨e1,hb'⟩=>⟨e1,by
     rw[hU]at hu ⊢;obtain⟨u1,u2,u3⟩:=hu;exact⟨H.out.below u1 hb',Nat.le_trans u2 hb'.size,cT u3 (KeptBS.of_below hb') (λg _=>by simp)⟩⟩
    have UW:Hid (∀{a' b':Int} {W:World} (m:Nat),m<16384->U a' b' W->Calls prog 73 #[.pointer (some ⟨S,0,none⟩),.int .i64 (i:Int),.int .i64 0,.int .i64 (m:Int),.int .i64 k] W λe w'=>e=.returned (.bool (wasB T k ((i:Int),0) m))/\w'=W):=λ{a' b' W} m hm hu=>by
     rw[hU]at hu;exact H.out.was hu.1 0 m (by omega) (by rw[hk];show(0:Int)<2;omega) hm
    have UE:Hid (∀{a' b':Int} {W:World},U a' b' W->V BX Q0 W/\hb<=W.heap.size/\W.ownsRow hb 29 4 (.slice A os.length cpo) os.length (E8 os)):=λ{a' b' W} hu=>by
     rw[hU]at hu;exact⟨BT.out hu.1,hu.2⟩
    have UA:Hid (∀{a' b':Int} {W:World},U a' b' W->∃g cap W1,(Builtin.append_ #[149,149] 149 #[.slice A os.length cpo,.slice (some ⟨W.heap.size,0,none⟩) 1 1]).run prog (W.alloc (.cells #[.int .i64 ((c:Int) / 8),.int .i64 a',.int .i64 ((c:Int) % 8),.int .i64 b'] 29))=.ok (.slice (some ⟨g,0,none⟩) (os.length+1) cap) W1/\V BX Q0 W1/\hb<=W1.heap.size/\W1.ownsRow hb 29 4 (.slice (some ⟨g,0,none⟩) (os.length+1) cap) (os.length+1) (E8 (os++[⟨(c:Int) / 8,a',(c:Int) % 8,b'⟩]))):=λ{a' b' W} hu=>by
     rw[hU]at hu;obtain⟨u1,u2,u3⟩:=hu;obtain⟨g,cap,W1,r1,r2,r3⟩:=oG u3 ⟨(c:Int) / 8,a',(c:Int) % 8,b'⟩ (by omega) u2;exact⟨g,cap,W1,r1,HL.out.low (BT.out u1) hn0 HLT.out r3,Nat.le_trans u2 r3.size,r2⟩
    have HO1:Hid ((∀x:Nat,x<128->wasB T k ((i:Int),0) (codeN ⟨(c:Int) / 8,((x / 8:Nat):Int),(c:Int) % 8,((x % 8:Nat):Int)⟩)=false)->W9 (i:Int) T k (c+1) os):=λh=>oB hO.out (λx hx=>by rw[es,ep];exact h x hx);have HO2:Hid (∀x:Nat,x<128->wasB T k ((i:Int),0) (codeN ⟨(c:Int) / 8,((x / 8:Nat):Int),(c:Int) % 8,((x % 8:Nat):Int)⟩)=true->W9 (i:Int) T k (c+1) (os++[⟨(c:Int) / 8,((x / 8:Nat):Int),(c:Int) % 8,((x % 8:Nat):Int)⟩])):=λx hx hw=>by
     have:=oC hO.out hx (by rw[es,ep];exact hw);rw[es,ep]at this;exact this
    have hcs:0<=(c:Int) / 8/\(c:Int) / 8<16:=by omega
    have hcp:0<=(c:Int) % 8/\(c:Int) % 8<8:=by omega
    clear hU hnew OWn hne hbx V5 OW hO es ep;go_upto_region 8 with fail;generalize wr.alloc (.cells #[.int .i64 ((c:Int) / 8),.int .i64 0,.int .i64 ((c:Int) % 8),.int .i64 0] 29)=wk at *;generalize wr.heap.size=ob at *;generalize hcsl:(c:Int) / 8=cs at *;generalize hcpl:(c:Int) % 8=cp at *;clear hcsl hcpl d1;go_wp2_with fail;go_loopw[13,16] (λs13 s16 wr=>∃(x:Nat) (a' b':Int),s13=.slice A os.length cpo/\s16=.int .i64 (x:Int)/\x<=128/\U a' b' wr/\Hid (∀x':Nat,x'<x->wasB T k ((i:Int),0) (codeN ⟨cs,((x' / 8:Nat):Int),cp,((x' % 8:Nat):Int)⟩)=false)) (λ_ s16 _=>128-(intOf s16).toNat)
    case atStart=>exact⟨0,0,0,rfl,rfl,by omega,U0,λx' h=>by omega⟩
    case round =>
     clear U0;obtain⟨x,a',b',rfl,rfl,hx,U1,hN⟩:=hrel;by_cases hxl:x<128
     ·have x1:(x:Int)<128:=by omega
      have ex:((x / 8:Nat):Int)=(x:Int) / 8:=by omega
      have ey:((x % 8:Nat):Int)=(x:Int) % 8:=by omega
      have hpo:i8 ⟨cs,(x:Int) / 8,cp,(x:Int) % 8⟩=true:=n9 hcs (by dsimp only;omega) hcp (by dsimp only;omega);have hcl:=J5 hpo;have HN0:Hid (wasB T k ((i:Int),0) (codeN ⟨cs,(x:Int) / 8,cp,(x:Int) % 8⟩)=false->∀x':Nat,x'<x+1->wasB T k ((i:Int),0) (codeN ⟨cs,((x' / 8:Nat):Int),cp,((x' % 8:Nat):Int)⟩)=false):=λh x' hx'=>by
       by_cases e:x'=x
       ·subst e;rw[ex,ey];exact h
       ·exact hN.out x' (by omega)
      have HO3:Hid (wasB T k ((i:Int),0) (codeN ⟨cs,(x:Int) / 8,cp,(x:Int) % 8⟩)=true->W9 (i:Int) T k (c+1) (os++[⟨cs,(x:Int) / 8,cp,(x:Int) % 8⟩])):=λh=>by
       have:=HO2.out x hxl (by rw[ex,ey];exact h);rw[ex,ey]at this;exact this
      have U2:=US.out ((x:Int) / 8) ((x:Int) % 8) U1;obtain⟨g0,g1,g2,g3,g4,g5⟩:=UG.out U1;clear U1 hN ex ey;go_upto_region 12 with fail;generalize (wr.setCell ⟨ob,1,none⟩ (.int .i64 ((x:Int) / 8))).setCell ⟨ob,3,none⟩ (.int .i64 ((x:Int) % 8))=wu at *;have CD:=UC.out hpo U2;obtain⟨g0,g1,g2,g3,g4,g5⟩:=UG.out U2;generalize codeN ⟨cs,(x:Int) / 8,cp,(x:Int) % 8⟩=m at *;generalize (x:Int) / 8=xa at *;generalize (x:Int) % 8=xb at *;clear hpo;go_wp2_with fail;refine CD.mono ?_;rintro e wv⟨rfl,U3⟩;have WA:=UW.out m hcl U3;clear CD U2 g0 g1 g2 g3 g4 g5;generalize hwm:wasB T k ((i:Int),0) m=ww at *;clear hwm;cases ww with
      | false =>
        have HN1:=Hid.of (HN0.out rfl);clear HN0 HO3;go_wp2_with fail;refine WA.mono ?_;rintro e w'⟨rfl,rfl⟩;clear WA;go_wp2_with fail;go_roundw
        case rel=>exact⟨x+1,xa,xb,rfl,by go_num,by omega,U3,HN1⟩
        case measure=>first|omega|(simp[intOf];omega)|simp[intOf]
      | true =>
        have HO4:=Hid.of (HO3.out rfl);clear HN0 HO3;go_upto_region 13 with(go_at_call 73;refine WA.mono ?_;rintro e w'⟨rfl,rfl⟩)
        obtain⟨g,cap2,W1,hrun,V6,hb6,OW6⟩:=UA.out U3;obtain⟨g0,g1,g2,g3,g4,g5⟩:=UG.out U3
        iterate 10 go_step
        refine gQ rfl _ _ 149 rfl _ _ _ _ rfl rfl hrun ?_;simp only[Act.put,List.setIfInBounds_toArray,List.set_cons_zero,List.set_cons_succ];have hl2:os.length+1=(os++[(⟨cs,xa,cp,xb⟩:Pk)]).length:=by simp
        have hl3:(os++[(⟨cs,xa,cp,xb⟩:Pk)]).length<=c+1:=by simp;omega
        rw[hl2]at OW6 ⊢;clear hrun WA U3 g0 g1 g2 g3 g4 g5;go_wp2_with fail;go_roundw
        case rel=>exact⟨c+1,os++[⟨cs,xa,cp,xb⟩],some ⟨g,0,none⟩,cap2,rfl,by go_num,by omega,hl3,V6,hb6,OW6,HO4⟩
        case measure=>first|omega|(simp[intOf];omega)|simp[intOf]
     ·obtain rfl:x=128:=by omega
      have HO4:=Hid.of (HO1.out hN.out);obtain⟨V6,hb6,OW6⟩:=UE.out U1;clear U1 hN;go_wp2_with fail;go_roundw
      case rel=>exact⟨c+1,os,A,cpo,rfl,by go_num,by omega,by omega,V6,hb6,OW6,HO4⟩
      case measure=>first|omega|(simp[intOf];omega)|simp[intOf]
  ·have c129:¬(c:Int)<128:=by omega
   have HO5:Hid (W9 (i:Int) T k 128 os):=by
    have e:c=128:=by omega
    rw[<- e];exact hO
   obtain⟨OB,V6,HOB⟩:=oH HL.out (λh=>H.out.get h) V5 hn0 OW;have hol2:os.length<=128:=by omega
   have HOB:=Hid.of HOB;obtain⟨BZ,hBZ⟩:∃BZ:f8,BZ=OB++BX:=⟨_,rfl⟩;rw[<- hBZ]at V6 HOB;have BE:Hid (∀{Q:d7} {W:World},V BZ Q W->W.cell? ⟨y+1,0,none⟩=some (.string d.name)/\W.cell? ⟨y+1,1,none⟩=some (.int .i64 4)/\W.cell? ⟨y+1,2,none⟩=some (.int .i64 d.addr)/\W.cell? ⟨y+1,3,none⟩=some (.int .u8 (d.pool:Int))):=λ{Q W} hv=>by
    have:=BD.out (H.out.less hv (bx':=BX) (λy hy=>by rw[hBZ];exact List.mem_append.2 (Or.inr hy)));exact⟨this.1,this.2.1,this.2.2.1,this.2.2.2.1⟩
   have BU:Hid (∀{y':Nat × Array Value × TypeId} {Q:d7} {W:World},V (y'::BZ) Q W->V BZ Q W):=λ{y' Q W} hv=>H.out.less hv (λy hy=>List.mem_cons_of_mem _ hy);have HND:Hid (∀{Q:d7} {W:World},V BZ Q W->V [] Q W):=λhv=>H.out.less hv (λy hy=>by cases hy);obtain⟨_,e1,_⟩:=BE.out V6;clear V5 OW hBZ BD BT HLT hn0 hhb' hBX HL;have HA1:Hid (dt (i:Int) T k os):=oD HO5.out;have HOS:Hid (∀o∈os,(0<=o.s/\o.s<16)/\(0<=o.sp/\o.sp<8)):=λo ho=>by
    obtain⟨y,h1,h2,h3,_⟩:=HO5.out.1 o ho;rw[h2,h3];omega
   clear hO HO5;go_wp2_with fail;go_loopw[17] (λs wr=>∃q:Nat,s=.int .i64 (q:Int)/\q<=2/\V BZ (un Q0 (partQ (one4 d (i:Int) ls T k os) q 0)) wr) (λs _=>2-(intOf s).toNat)
   case atStart=>exact⟨0,rfl,by omega,by rw[cL];exact V6⟩
   case round =>
    clear V6 e1;obtain⟨q,rfl,hq,V6⟩:=hrel;obtain⟨_,e1,_⟩:=BE.out V6;go_wp2_with fail;refine(PO.out _).mono ?_;rintro e w6⟨rfl,hb6⟩;have V7:=H.out.below V6 hb6;clear V6 hb6 e1;by_cases hqP:q<2
    rotate_left
    ·obtain rfl:q=2:=by omega
     have V8:=H.out.less V7 (bx':=[]) (λy hy=>by cases hy);rw[cO]at V8;clear V7;go_wp2_with fail
     go_returns
     exact⟨rfl,os,HA1.out,V8⟩
    have q1:(q:Int)<2:=by omega
    go_wp2_with fail;go_loopw[18] (λs wr=>∃c:Nat,s=.int .i64 (c:Int)/\c<=16384/\V BZ (un Q0 (partQ (one4 d (i:Int) ls T k os) q c)) wr) (λs _=>16384-(intOf s).toNat)
    case atStart=>exact⟨0,rfl,by omega,V7⟩
    case round =>
     clear V7;obtain⟨c,rfl,hc,V8⟩:=hrel;by_cases hlt:c<16384
     rotate_left
     ·obtain rfl:c=16384:=by omega
      rw[cN]at V8;go_wp2_with fail;go_roundw
      case rel=>exact⟨q+1,by go_num,by omega,V8⟩
      case measure=>first|omega|(simp[intOf];omega)|simp[intOf]
     have c1:(c:Int)<16384:=by omega
     have WA:=H.out.was V8 (q:Int) c (by omega) (by rw[hk];show(q:Int)<2;omega) hlt;have ST:Hid (∀W,V BZ (un (un Q0 (partQ (one4 d (i:Int) ls T k os) q c)) ((one4 d (i:Int) ls T k os) (q:Int) c)) W->V BZ (un Q0 (partQ (one4 d (i:Int) ls T k os) q (c+1))) W):=λW h=>by rw[cM hlt]at h;exact h
     generalize un Q0 (partQ (one4 d (i:Int) ls T k os) q c)=Qc at *;cases hw:wasB T k ((i:Int),(q:Int)) c with
     | false =>
       rw[hw]at WA;have V9:V BZ (un Qc ((one4 d (i:Int) ls T k os) (q:Int) c)) wr:=by
        rw[jf hw];exact V8
       clear hw;go_wp2_with fail;refine WA.mono ?_;rintro e w'⟨rfl,rfl⟩;clear WA;go_wp2_with fail;go_roundw
       case rel=>exact⟨c+1,by go_num,by omega,ST.out _ V9⟩
       case measure=>first|omega|(simp[intOf];omega)|simp[intOf]
     | true =>
       rw[hw]at WA;go_wp2_with fail;refine WA.mono ?_;rintro e w'⟨rfl,rfl⟩;clear WA;go_wp2_with fail;refine(PK.out c _ hlt).mono ?_;rintro e w9⟨rfl,hb9⟩;have V9:=H.out.below V8 hb9;have VA:=H.out.new V9 #[.int .i64 (pkN c).s,.int .i64 (pkN c).d,.int .i64 (pkN c).sp,.int .i64 (pkN c).dp] 29;clear V8 V9 hb9;go_upto_region 22 with fail;generalize w9.alloc (.cells #[.int .i64 (pkN c).s,.int .i64 (pkN c).d,.int .i64 (pkN c).sp,.int .i64 (pkN c).dp] 29)=wa at *;generalize w9.heap.size=u at *;have hpc:=pkN_ok hlt;obtain⟨hp1,hp2,hp3,hp4⟩:=p9 hpc;obtain⟨_,e1,_⟩:=BE.out (BU.out VA);obtain hqe|hqe:(q:Int)=0\/(q:Int)=1:=by omega
       ·as_aux_lemma =>
         have f0:((q:Int) == 0)=true:=by simpa using hqe
         have f1:((q:Int) == 1)=false:=by simp[hqe]
         have PX:Hid (∀{bx:f8} {Q:d7} {W:World} (x:Nat),x<8->V bx Q W->Calls prog 36 #[.int .i64 (i:Int),.int .i64 1,.agg #[.int .i64 d.addr,.int .i64 (pkN c).d,.int .i64 (x:Int),.int .i64 (pkN c).dp],.pointer (some ⟨nb,0,none⟩),.pointer (some ⟨sb,0,none⟩),.pointer (some ⟨kb,0,none⟩),.pointer (some ⟨mb,0,none⟩)] W λe w'=>e=.returned (.tuple #[])/\V bx (i4 Q (peerF ls (i:Int) 1) (codeN ⟨d.addr,(pkN c).d,(x:Int),(pkN c).dp⟩)) w'):=λx hx h=>H.out.put h 1 ⟨d.addr,(pkN c).d,(x:Int),(pkN c).dp⟩ (n9 ha hp2 (by dsimp only;omega) hp4);have HY:Hid (∀x:Nat,poolB d (x:Int)=true->i4 (un Qc (hideS d (i:Int) ls (pkN c) x)) (peerF ls (i:Int) 1) (codeN ⟨d.addr,(pkN c).d,(x:Int),(pkN c).dp⟩)=un Qc (hideS d (i:Int) ls (pkN c) (x+1))):=λx h=>ji h;have HF:Hid (∀x:Nat,poolB d (x:Int)=false->un Qc (hideS d (i:Int) ls (pkN c) (x+1))=un Qc (hideS d (i:Int) ls (pkN c) x)):=λx h=>jh h;have HE:Hid (un Qc (hideS d (i:Int) ls (pkN c) 8)=un Qc (one4 d (i:Int) ls T k os (q:Int) c)):=by
          rw[hqe]at hw ⊢;exact jj hw
         have VB:V ((u,#[.int .i64 (pkN c).s,.int .i64 (pkN c).d,.int .i64 (pkN c).sp,.int .i64 (pkN c).dp],29)::BZ) (un Qc (hideS d (i:Int) ls (pkN c) 0)) wa:=by rw[jg];exact VA
         clear hw hqe VA hp1 hp2 hp3 hp4 HOB;generalize hideS d (i:Int) ls (pkN c)=hS at *;generalize one4 d (i:Int) ls T k os (q:Int) c=R at *;generalize pkN c=pc at *;obtain⟨a,b',c',e'⟩:=pc;dsimp only at *;go_wp2_with fail;go_loopw[23] (λs23 wr=>∃x:Nat,s23=.int .i64 (x:Int)/\x<=8/\V ((u,#[.int .i64 a,.int .i64 b',.int .i64 c',.int .i64 e'],29)::BZ) (un Qc (hS x)) wr) (λs23 _=>8-(intOf s23).toNat)
         case atStart=>exact⟨0,rfl,by omega,VB⟩
         case round =>
          clear VB e1;obtain⟨x,rfl,hx,VC⟩:=hrel;obtain⟨e0,e1,e2,e3⟩:=BE.out (BU.out VC);by_cases hx8:x<8
          ·have y8:(x:Int)<8:=by omega
           have HAx:=HA.out d.pool (x:Int) wr (by omega);rw[hpool (x:Int) (by omega)]at HAx;have HFx:=Hid.of (HF.out x);have HYx:=Hid.of (HY.out x);have PXx:Hid (∀{bx:f8} {Q:d7} {W:World},V bx Q W->Calls prog 36 #[.int .i64 (i:Int),.int .i64 1,.agg #[.int .i64 d.addr,.int .i64 b',.int .i64 (x:Int),.int .i64 e'],.pointer (some ⟨nb,0,none⟩),.pointer (some ⟨sb,0,none⟩),.pointer (some ⟨kb,0,none⟩),.pointer (some ⟨mb,0,none⟩)] W λe w'=>e=.returned (.tuple #[])/\V bx (i4 Q (peerF ls (i:Int) 1) (codeN ⟨d.addr,b',(x:Int),e'⟩)) w'):=λh=>PX.out x hx8 h;generalize codeN ⟨d.addr,b',(x:Int),e'⟩=cx at *;generalize poolB d (x:Int)=pb at *;cases pb with
           | false =>
             have HFy:=Hid.of (HFx.out rfl);clear HFx HYx PXx;go_wp2_with fail;refine HAx.mono ?_;rintro e w'⟨rfl,rfl⟩;clear HAx;go_wp2_with fail;go_roundw
             case rel=>exact⟨x+1,by go_num,by omega,by rw[HFy.out];exact VC⟩
             case measure=>first|omega|(simp[intOf];omega)|simp[intOf]
           | true =>
             have HYy:=Hid.of (HYx.out rfl);clear HFx HYx;have VD:=H.out.new VC #[.int .i64 a,.int .i64 b',.int .i64 c',.int .i64 e'] 29;have VN:=H.out.new VC #[.int .i64 d.addr,.int .i64 b',.int .i64 (x:Int),.int .i64 e'] 29;obtain⟨x0,x1,x2,x3⟩:=GP.out VC;obtain⟨_,_,f2,_⟩:=BE.out (BU.out (H.out.less VD (bx':=((u,#[.int .i64 a,.int .i64 b',.int .i64 c',.int .i64 e'],29)::BZ)) (λy hy=>List.mem_cons_of_mem _ hy)));go_upto_region 40 with(go_at_call 77;refine HAx.mono ?_;rintro e w'⟨rfl,rfl⟩)
             generalize wr.alloc (.cells #[.int .i64 d.addr,.int .i64 b',.int .i64 (x:Int),.int .i64 e'] 29)=wn at *;generalize wr.heap.size=z4 at *;obtain⟨g0,g1,g2,g3⟩:=GP.out VN;clear VC VD HAx x0 x1 x2 x3 f2 e0 e1 e2 e3;go_wp2_with fail;refine(PXx.out VN).mono ?_;rintro e wm⟨rfl,VM⟩;have VZ:=H.out.less VM (bx':=((u,#[.int .i64 a,.int .i64 b',.int .i64 c',.int .i64 e'],29)::BZ)) (λy hy=>List.mem_cons_of_mem _ hy);rw[HYy.out]at VZ;clear VN VM g0 g1 g2 g3 PXx;go_wp2_with fail;go_roundw
             case rel=>exact⟨x+1,by go_num,by omega,VZ⟩
             case measure=>first|omega|(simp[intOf];omega)|simp[intOf]
          ·obtain rfl:x=8:=by omega
           have VH:=VC;rw[HE.out]at VH;clear VC HE HF HY PX e0 e1 e2 e3;go_wp2_with fail;go_loopw[25] (λs25 wr=>s25=.int .i64 0/\V ((u,#[.int .i64 a,.int .i64 b',.int .i64 c',.int .i64 e'],29)::BZ) (un Qc R) wr) (λ_ _=>0)
           case atStart=>exact⟨rfl,VH⟩
           case round =>
            clear VH;obtain⟨rfl,VZ⟩:=hrel;by_cases hlo:(0:Int)<(os.length:Int)
            ·go_wp2_with fail;go_roundw
             case rel=>exact⟨c+1,by go_num,by omega,ST.out _ (H.out.less VZ (λy hy=>List.mem_cons_of_mem _ hy))⟩
             case measure=>first|omega|(simp[intOf];omega)|simp[intOf]
            ·go_wp2_with fail;go_roundw
             case rel=>exact⟨c+1,by go_num,by omega,ST.out _ (H.out.less VZ (λy hy=>List.mem_cons_of_mem _ hy))⟩
             case measure=>first|omega|(simp[intOf];omega)|simp[intOf]
       ·as_aux_lemma =>
         have f0:((q:Int) == 0)=false:=by simp[hqe]
         have f1:((q:Int) == 1)=true:=by simpa using hqe
         have PX:Hid (∀{bx:f8} {Q:d7} {W:World} (o:Pk),(0<=o.s/\o.s<16)->(0<=o.sp/\o.sp<8)->V bx Q W->Calls prog 36 #[.int .i64 (i:Int),.int .i64 0,.agg #[.int .i64 (pkN c).s,.int .i64 o.s,.int .i64 (pkN c).sp,.int .i64 o.sp],.pointer (some ⟨nb,0,none⟩),.pointer (some ⟨sb,0,none⟩),.pointer (some ⟨kb,0,none⟩),.pointer (some ⟨mb,0,none⟩)] W λe w'=>e=.returned (.tuple #[])/\V bx (i4 Q (peerF ls (i:Int) 0) (codeN ⟨(pkN c).s,o.s,(pkN c).sp,o.sp⟩)) w'):=λo h1 h2 h=>H.out.put h 0 ⟨(pkN c).s,o.s,(pkN c).sp,o.sp⟩ (n9 hp1 h1 hp3 h2);have HY:Hid (∀(x:Nat) (o:Pk),os[x]?=some o->i4 (un Qc (showS (i:Int) ls os (pkN c) x)) (peerF ls (i:Int) 0) (codeN ⟨(pkN c).s,o.s,(pkN c).sp,o.sp⟩)=un Qc (showS (i:Int) ls os (pkN c) (x+1))):=λx o h=>ow h;have HE:Hid ((pkN c).d=d.addr->poolB d (pkN c).dp=true->un Qc (showS (i:Int) ls os (pkN c) os.length)=un Qc (one4 d (i:Int) ls T k os (q:Int) c)):=λh1 h2=>by
          rw[hqe]at hw ⊢;exact ox hw h1 h2
         have HF:Hid (¬((pkN c).d=d.addr/\poolB d (pkN c).dp=true)->un Qc (one4 d (i:Int) ls T k os (q:Int) c)=Qc):=λh=>by
          rw[hqe];exact oy h
         have HS0:Hid (un Qc (showS (i:Int) ls os (pkN c) 0)=Qc):=ov;have HAp:=HA.out d.pool (pkN c).dp;rw[hpool (pkN c).dp hp4]at HAp;have HAp:Hid (∀W:World,Calls prog 77 #[.int .i64 (d.pool:Int),.int .i64 (pkN c).dp] W λe w'=>e=.returned (.bool (poolB d (pkN c).dp))/\w'=W):=λW=>HAp W (by omega);clear hw hqe hp1 hp2 hp3 hp4;generalize showS (i:Int) ls os (pkN c)=hS at *;generalize one4 d (i:Int) ls T k os (q:Int) c=R at *;generalize poolB d (pkN c).dp=pb at *;generalize pkN c=pc at *;obtain⟨a,b',c',e'⟩:=pc;dsimp only at *;go_wp2_with fail;go_loopw[23] (λs23 wr=>s23=.int .i64 0/\V ((u,#[.int .i64 a,.int .i64 b',.int .i64 c',.int .i64 e'],29)::BZ) Qc wr) (λ_ _=>0)
         case atStart=>exact⟨rfl,VA⟩
         case round =>
          clear VA e1;obtain⟨rfl,VC⟩:=hrel;by_cases hgd:b'=d.addr/\pb=true
          ·obtain⟨hgd1,rfl⟩:=hgd;have fd:(b' == d.addr)=true:=by simpa using hgd1
           have HE1:=Hid.of (HE.out hgd1 rfl);have VB:V ((u,#[.int .i64 a,.int .i64 b',.int .i64 c',.int .i64 e'],29)::BZ) (un Qc (hS 0)) wr:=by rw[HS0.out];exact VC
           clear HE HF HS0 VC hgd1;go_wp2_with fail;go_loopw[25] (λs25 wr=>∃x:Nat,s25=.int .i64 (x:Int)/\x<=os.length/\V ((u,#[.int .i64 a,.int .i64 b',.int .i64 c',.int .i64 e'],29)::BZ) (un Qc (hS x)) wr) (λs25 _=>os.length-(intOf s25).toNat)
           case atStart=>exact⟨0,rfl,by omega,VB⟩
           case round =>
            clear VB;obtain⟨x,rfl,hx,VC⟩:=hrel;by_cases hxl:x<os.length
            ·have y8:(x:Int)<(os.length:Int):=by omega
             have y0:(0:Int)<=(x:Int):=by omega
             obtain⟨o,ho⟩:∃o,os[x]?=some o:=⟨_,List.getElem?_eq_getElem hxl⟩;have HYx:=Hid.of (HY.out x o ho);have hob:=HOS.out o (List.mem_of_getElem? ho);have PXx:Hid (∀{bx:f8} {Q:d7} {W:World},V bx Q W->Calls prog 36 #[.int .i64 (i:Int),.int .i64 0,.agg #[.int .i64 a,.int .i64 o.s,.int .i64 c',.int .i64 o.sp],.pointer (some ⟨nb,0,none⟩),.pointer (some ⟨sb,0,none⟩),.pointer (some ⟨kb,0,none⟩),.pointer (some ⟨mb,0,none⟩)] W λe w'=>e=.returned (.tuple #[])/\V bx (i4 Q (peerF ls (i:Int) 0) (codeN ⟨a,o.s,c',o.sp⟩)) w'):=λh=>PX.out o hob.1 hob.2 h;have HO:Hid (∀(Q':d7) (W':World) (bx:f8),(∀y∈BZ,y∈bx)->V bx Q' W'->∃g,A=some ⟨g,0,none⟩/\W'.cell? ⟨g,x*4,none⟩=some (.int .i64 o.s)/\W'.cell? ⟨g,x*4+2,none⟩=some (.int .i64 o.sp)):=λQ' W' bx=>HOB.out Q' W' bx x o ho;generalize codeN ⟨a,o.s,c',o.sp⟩=cx at *;generalize o.s=os1 at *;generalize o.sp=os2 at *;clear ho hob;obtain⟨g,rfl,_⟩:=HO.out _ _ _ (λy hy=>List.mem_cons_of_mem _ hy) VC;have HO:Hid (∀{Q':d7} {W':World} {y':Nat × Array Value × TypeId},V (y'::((u,#[.int .i64 a,.int .i64 b',.int .i64 c',.int .i64 e'],29)::BZ)) Q' W'->W'.cell? ⟨g,x*4,none⟩=some (.int .i64 os1)/\W'.cell? ⟨g,x*4+2,none⟩=some (.int .i64 os2)):=λ{Q' W' y'} hv=>by
              obtain⟨g',e,r⟩:=HO.out Q' W' _ (λy hy=>List.mem_cons_of_mem _ (List.mem_cons_of_mem _ hy)) hv;cases e;exact r
             obtain⟨e0,e1,e2,e3⟩:=BE.out (BU.out VC);obtain⟨x0,x1,x2,x3⟩:=GP.out VC;have HNE:Hid (∀y∈((u,#[.int .i64 a,.int .i64 b',.int .i64 c',.int .i64 e'],29)::BZ),y.1≠wr.heap.size):=λy' hy'=>by
              have:=(H.out.get VC y' hy').lt;omega
             have VN:=H.out.below (H.out.new VC #[.int .i64 a,.int .i64 b',.int .i64 c',.int .i64 e'] 29) (Below.refl _ _).drew;go_upto_region 45 with(go_at_call 77;refine(HAp.out _).mono ?_;rintro e w'⟨rfl,hww⟩;obtain rfl:=hww.symm)
             generalize wr.alloc (.cells #[.int .i64 a,.int .i64 b',.int .i64 c',.int .i64 e'] 29)=wn at *;generalize wr.heap.size=z4 at *;clear VC e0 e1 e2 e3 x0 x1 x2 x3;have VP:=H.out.set VN HNE.out 1 (.int .i64 os1);have VQ:=H.out.set VP HNE.out 3 (.int .i64 os2);rw[show(((#[.int .i64 a,.int .i64 b',.int .i64 c',.int .i64 e']:Array Value).setIfInBounds 1 (.int .i64 os1)).setIfInBounds 3 (.int .i64 os2))=#[.int .i64 a,.int .i64 os1,.int .i64 c',.int .i64 os2]from rfl]at VQ;rw[show((#[.int .i64 a,.int .i64 b',.int .i64 c',.int .i64 e']:Array Value).setIfInBounds 1 (.int .i64 os1))=#[.int .i64 a,.int .i64 os1,.int .i64 c',.int .i64 e']from rfl]at VP;obtain⟨_,g1,_,g3,_,h1,_,h3⟩:=(H.out.get VN (_,_,_) List.mem_cons_self).four;obtain⟨_,k1,_,k3,_,l1,_,l3⟩:=(H.out.get VP (_,_,_) List.mem_cons_self).four;have S1:=HO.out VN;have S2:=HO.out VP;have VQ:V ((z4,#[.int .i64 a,.int .i64 os1,.int .i64 c',.int .i64 os2],29)::((u,#[.int .i64 a,.int .i64 b',.int .i64 c',.int .i64 e'],29)::BZ)) (un Qc (hS x)) ((wn.setCell ⟨z4,1,none⟩ (.int .i64 os1)).setCell ⟨z4,3,none⟩ (.int .i64 os2)).drew:=VQ;have S3:=HO.out VQ;have g3':wn.cell? ⟨z4,3,none⟩=some (.int .i64 e'):=g3;have h3':wn.frozen? ⟨z4,3,none⟩=false:=h3;have g1':wn.cell? ⟨z4,1,none⟩=some (.int .i64 b'):=g1;have h1':wn.frozen? ⟨z4,1,none⟩=false:=h1;refine wp_region_held_drew (S:=λW'=>W'.cell? ⟨g,x*4,none⟩=some (.int .i64 os1)/\W'.cell? ⟨g,x*4+2,none⟩=some (.int .i64 os2)) (by kernel_rfl) S1 (λhHeld=>?_);refine tk 0 ?_;try simp only[ly]
             refine tk 1 ?_;try simp only[ly]
             refine tk 2 ?_;try simp only[ly]
             refine tk 3 ?_;try simp only[ly]
             refine tk 4 ?_;try simp only[ly]
             refine tk 5 ?_;try simp only[ly]
             refine tk 6 ?_;try simp only[ly]
             refine tk 7 ?_;try simp only[ly]
             refine tk 8 ?_;try simp only[ly]
             refine tk 9 ?_;try simp only[ly]
             refine tk 10 ?_;try simp only[ly]
             refine rd 11 (λK hK=>?_);go_simp;clear hHeld;refine hK.out _ _ S2 (λhHeld=>?_);clear hK K;try simp only[ly]
             refine tk 12 ?_;try simp only[ly]
             refine rd 13 (λK hK=>?_);go_simp;clear hHeld;refine hK.out _ _ S3 (λhHeld=>?_);clear hK K;refine wpAnyH_done (by kernel_rfl) ?_ _;generalize ((wn.setCell ⟨z4,1,none⟩ (.int .i64 os1)).setCell ⟨z4,3,none⟩ (.int .i64 os2)).drew=wq at *;obtain⟨m0,m1,m2,m3⟩:=GP.out VQ;clear VN VP S1 S2 S3 g1 g3 h1 h3 k1 k3 l1 l3 g1' g3' h1' h3';go_wp2_with fail;refine(PXx.out VQ).mono ?_;rintro e wm⟨rfl,VM⟩;have VZ:=H.out.less VM (bx':=((u,#[.int .i64 a,.int .i64 b',.int .i64 c',.int .i64 e'],29)::BZ)) (λy hy=>List.mem_cons_of_mem _ hy);rw[HYx.out]at VZ;clear VQ VM m0 m1 m2 m3 PXx HO HNE;go_wp2_with fail;go_roundw
             case rel=>exact⟨x+1,by go_num,by omega,VZ⟩
             case measure=>first|omega|(simp[intOf];omega)|simp[intOf]
            ·obtain rfl:x=os.length:=by omega
             have VZ:=VC;rw[HE1.out]at VZ;have hno:¬(os.length:Int)<(os.length:Int):=by omega
             clear VC HE1 HY PX;go_wp2_with fail;go_roundw
             case rel=>exact⟨c+1,by go_num,by omega,ST.out _ (H.out.less VZ (λy hy=>List.mem_cons_of_mem _ hy))⟩
             case measure=>first|omega|(simp[intOf];omega)|simp[intOf]
          ·have VH:V ((u,#[.int .i64 a,.int .i64 b',.int .i64 c',.int .i64 e'],29)::BZ) (un Qc R) wr:=by rw[HF.out hgd];exact VC
           clear HE HF HS0 HY PX VC;go_wp2_with fail;go_loopw[25] (λs25 wr=>s25=.int .i64 0/\V ((u,#[.int .i64 a,.int .i64 b',.int .i64 c',.int .i64 e'],29)::BZ) (un Qc R) wr) (λ_ _=>0)
           case atStart=>exact⟨rfl,VH⟩
           case round =>
            clear VH;obtain⟨rfl,VZ⟩:=hrel;obtain⟨e0,e1,e2,e3⟩:=BE.out (BU.out VZ);obtain⟨x0,x1,x2,x3⟩:=GP.out VZ;by_cases hlo:(0:Int)<(os.length:Int)
            ·cases hfd:(b' == d.addr)with
             | false =>
               clear hgd;go_wp2_with fail;go_roundw
               case rel=>exact⟨c+1,by go_num,by omega,ST.out _ (H.out.less VZ (λy hy=>List.mem_cons_of_mem _ hy))⟩
               case measure=>first|omega|(simp[intOf];omega)|simp[intOf]
             | true =>
               have hpf:pb=false:=by
                have h1:b'=d.addr:=by simpa using hfd
                cases pb
                ·rfl
                ·exact absurd ⟨h1,rfl⟩ hgd
               subst hpf;clear hgd;go_wp2_with fail;refine(HAp.out _).mono ?_;rintro e w'⟨rfl,rfl⟩;go_wp2_with fail;go_roundw
               case rel=>exact⟨c+1,by go_num,by omega,ST.out _ (H.out.less VZ (λy hy=>List.mem_cons_of_mem _ hy))⟩
               case measure=>first|omega|(simp[intOf];omega)|simp[intOf]
            ·clear hgd;go_wp2_with fail;go_roundw
             case rel=>exact⟨c+1,by go_num,by omega,ST.out _ (H.out.less VZ (λy hy=>List.mem_cons_of_mem _ hy))⟩
             case measure=>first|omega|(simp[intOf];omega)|simp[intOf]
theorem qa{b9:Nat}{w:World}{v:Value}{xs:List NRule}(h:SlAt b9 w 5 A9 v xs):Rules b9 w v (xs.map λr=>⟨r.ok,r.a,r.b,r.c,r.d,r.ha,r.hb,r.hc,r.hd⟩):=by
 obtain⟨A,cap,rfl,h0,h1,h2,h3⟩:=h;refine⟨A,cap,by rw[List.length_map],h0,by rw[List.length_map];exact h1,h2,λhn=>?_⟩;obtain⟨b,o,ea,hl,hr⟩:=h3 (λe=>hn (by rw[e];rfl));refine⟨b,o,ea,hl,λj u hj=>?_⟩;have hjl:=(List.getElem?_eq_some_iff.1 hj).1;rw[im,List.length_map]at hjl;have hk:j / 5<xs.length:=by omega
 have hx:xs[j / 5]?=some xs[j / 5]:=List.getElem?_eq_getElem hk;obtain⟨cs,_,rfl,hc⟩:=hr _ _ hx;obtain⟨c0,c1,c2,c3,c4⟩:=fO (xs.map λr:NRule=>(⟨r.ok,r.a,r.b,r.c,r.d,r.ha,r.hb,r.hc,r.hd⟩:Rl)) (j / 5) _ (by rw[List.getElem?_map,hx];rfl);have hm:j % 5=0\/j % 5=1\/j % 5=2\/j % 5=3\/j % 5=4:=by omega
 have eo:o+j=o+j / 5*5+j % 5:=by omega
 rw[eo];rcases hm with hm|hm|hm|hm|hm
 ·rw[show j=j / 5*5 by omega,c0]at hj;rw[hm,<- Option.some.inj hj];exact hc 0 _ rfl
 ·rw[show j=j / 5*5+1 by omega,c1]at hj;rw[hm,<- Option.some.inj hj];exact hc 1 _ rfl
 ·rw[show j=j / 5*5+2 by omega,c2]at hj;rw[hm,<- Option.some.inj hj];exact hc 2 _ rfl
 ·rw[show j=j / 5*5+3 by omega,c3]at hj;rw[hm,<- Option.some.inj hj];exact hc 3 _ rfl
 ·rw[show j=j / 5*5+4 by omega,c4]at hj;rw[hm,<- Option.some.inj hj];exact hc 4 _ rfl
theorem qb{d:Dv}(h:devC d=0):d.backs.length<=3/\d.rules.length<=8/\d.routes.length<=8:=by
 unfold devC P9 at h
 split at h
 ·simp at h
 split at h
 ·simp at h
 rename_i h1 h2
 split at h
 ·simp at h
 rename_i h3
 split at h
 ·simp at h
 split at h
 ·simp at h
 split at h
 ·simp at h
 split at h
 ·simp at h
 rename_i h8
 have hr:d.routes.length<=8:=by
  unfold checkV at h
  split at h
  ·simp at h
  ·rename_i h9
   simpa using h9
 exact⟨by omega,by omega,hr⟩
section
variable {B0:Nat}{W0 W W':World}{nb sb S M kb mb n0:Nat}{vd vl:Value}{ds:List Dv}{ls:List Lk}{bl:(Int × Int)->Option Nat}{T:Tab}{k:Int}{P:d7}{t:Int × Int}{b c:Nat}{bx:f8}
theorem Dx.set{cs:Array Value}{ty:TypeId}(h:Dx B0 W0 nb sb S M kb mb vd vl ds ls bl T k n0 ((b,cs,ty)::bx) P W)(hp:nb<n0/\sb<n0/\S<n0/\M<n0/\kb<n0/\B0<=n0)(hne:∀y∈bx,y.1≠b)(j:Nat)(u:Value):Dx B0 W0 nb sb S M kb mb vd vl ds ls bl T k n0 ((b,cs.setIfInBounds j u,ty)::bx) P (W.setCell ⟨b,j,none⟩ u):=by
 obtain⟨p1,p2,p3,p4,p5,p6⟩:=hp;obtain⟨hb0,hbk⟩:=h.bx _ List.mem_cons_self;have hb0:n0<=b:=hb0;have h1:∀i,i≠b->(W.setCell ⟨b,j,none⟩ u).heap[i]?=W.heap[i]?:=λi hi=>Below.heap_setCell W ⟨b,j,none⟩ u i hi;have hbel:Below B0 W (W.setCell ⟨b,j,none⟩ u):=(Below.refl B0 W).setCell (p:=⟨b,j,none⟩) (by show B0<=b;omega) u;have x:=h.x;have hm:=h.lo.1;refine⟨⟨x.bel.trans hbel,x.d.below hbel,x.l.below hbel,(h1 _ (by omega)).trans x.n,(h1 _ (by omega)).trans x.s,(h1 _ (by omega)).trans x.S,x.map.same (h1 _ (by omega)),λt b' e=>⟨(x.row t b' e).1.same (h1 _ (by have:=h.lo.2 t b' e;omega)),(x.row t b' e).2⟩,x.inj,(h1 _ (by omega)).trans x.k,(h1 _ (by omega)).trans x.m,x.lo,x.dom⟩,by simpa[World.setCell]using h.up,h.lo,λy hy=>?_⟩;rcases List.mem_cons.1 hy with rfl|hy
 ·exact⟨hb0,Bk.setS hbk u⟩
 ·exact⟨(h.bx y (List.mem_cons_of_mem _ hy)).1,(h1 _ (hne y hy)).trans (h.bx y (List.mem_cons_of_mem _ hy)).2⟩
theorem Dx.low(h:Dx B0 W0 nb sb S M kb mb vd vl ds ls bl T k n0 bx P W)(hp:nb<n0/\sb<n0/\S<n0/\M<n0/\kb<n0/\B0<=n0){hb:Nat}(hn:n0<=hb)(hx:∀y∈bx,y.1<hb)(hB:Below hb W W'):Dx B0 W0 nb sb S M kb mb vd vl ds ls bl T k n0 bx P W':=by
 obtain⟨p1,p2,p3,p4,p5,p6⟩:=hp;have h1:∀i,i<hb->W'.heap[i]?=W.heap[i]?:=λi hi=>hB.block i hi;have hbel:Below B0 W W':=hB.mono (by omega);have x:=h.x;have hm:=h.lo.1;exact⟨⟨x.bel.trans hbel,x.d.below hbel,x.l.below hbel,(h1 _ (by omega)).trans x.n,(h1 _ (by omega)).trans x.s,(h1 _ (by omega)).trans x.S,x.map.same (h1 _ (by omega)),λt b' e=>⟨(x.row t b' e).1.same (h1 _ (by have:=h.lo.2 t b' e;omega)),(x.row t b' e).2⟩,x.inj,(h1 _ (by omega)).trans x.k,(h1 _ (by omega)).trans x.m,x.lo,x.dom⟩,Nat.le_trans h.up hB.size,h.lo,λy hy=>⟨(h.bx y hy).1,(h1 _ (hx y hy)).trans (h.bx y hy).2⟩⟩
theorem Dx.frx(h:Dx B0 W0 nb sb S M kb mb vd vl ds ls bl T k n0 bx P W){P':d7}(hS:Sx B0 W0 nb sb S M kb mb vd vl ds ls bl T k P' W')(hF:FrX bl mb W W'):Dx B0 W0 nb sb S M kb mb vd vl ds ls bl T k n0 bx P' W' :=
 ⟨hS,Nat.le_trans h.up hF.1,h.lo,λy hy=>by
  obtain⟨h1,h2⟩:=h.bx y hy;exact⟨h1,(hF.2 y.1 h2.lt (λt e=>by have:=h.lo.2 t _ e;omega) (by have:=h.lo.1;omega)).trans h2⟩⟩
theorem dx_dl(hp:nb<n0/\sb<n0/\S<n0/\M<n0/\kb<n0/\B0<=n0):DL (λbx Q W=>Dx B0 W0 nb sb S M kb mb vd vl ds ls bl T k n0 bx Q W) n0 :=
 ⟨λh=>h.up,λh h1 h2 h3=>h.low hp h1 h2 h3,λh hg hk=>⟨h.x,h.up,h.lo,λy hy=>by
  rcases List.mem_cons.1 hy with rfl|hy
  ·exact⟨hg,hk⟩
  ·exact h.bx y hy⟩⟩
theorem dx_dv{A L:Option Addr}{cap d8 i:Nat}{d:Dv}{vr vt:Value}(hz:netV ds ls=0)(hk:0<=k/\k<1000000)(hd:ds[i]?=some d)(hr:SlAt B0 W0 5 A9 vr d.rules)(ht:SlAt B0 W0 3 C7 vt d.routes)(hp:nb<n0/\sb<n0/\S<n0/\M<n0/\kb<n0/\B0<=n0) :
  DV (λbx Q W=>Dx B0 W0 nb sb S M kb mb (.slice A ds.length cap) (.slice L ls.length d8) ds ls bl T k n0 bx Q W) d i ls T k S nb sb kb mb (.agg #[.slice A ds.length cap,.slice L ls.length d8]) vr vt:=by
 refine⟨λh hb=>h.below hb,λh c t=>h.new c t,λh y hy=>h.get hy,λh hs=>h.less hs,λh hne j u=>h.set hp hne j u,?_,?_,?_,?_,?_⟩
 ·intro bx Q W h q c hq hq2 hc;have hpl:isPl ds (i:Int) q=true:=by
   have hi:=(List.getElem?_eq_some_iff.1 hd).1;unfold isPl;have:k9 ds (i:Int)=d.kind:=by simp[k9,hd]
   rw[this];simp only[Bool.and_eq_true,decide_eq_true_eq];omega
  obtain⟨b,hb⟩:=h.x.dom ((i:Int),q) hpl;exact ri h.x hb hc
 ·intro bx Q W h o p hpo;cases hpe:peerF ls (i:Int) o with
  | none =>
    refine(rj (sb:=sb) (.slice A ds.length cap) L d8 ls i o p nb kb mb W h.x.n (h.x.l.mono h.x.size) hpe).mono λe w' ⟨h1,h2⟩=>⟨h1,?_⟩;rw[nz];exact h.below h2
  | some t=>exact(rk L d8 i o p h.x hz hpo hk hpe).mono λe w' ⟨h1,h2,h3⟩=>⟨h1,h.frx h2 h3⟩
 ·intro bx Q W h o;exact(rpeer_any (.slice A ds.length cap) L ls.length d8 ls i o W (h.x.l.mono h.x.size)).mono λe w' ⟨h1,h2⟩=>⟨h1,h.below h2⟩
 ·intro bx Q W h x;exact(rout_any (v:=vt) (xs:=routesOf d) x W (fL (SlAt.mono (SlAt.below ht h.x.bel (λ_ _ _ h=>h)) h.x.size (λ_ _ _ h=>h)))).mono λe w' ⟨h1,h2⟩=>⟨h1,h.below h2⟩
 ·intro bx Q W h p;exact(rlets_any (v:=vr) (xs:=iA d) p.s p.d p.sp p.dp W (qa (SlAt.mono (SlAt.below hr h.x.bel (λ_ _ _ h=>h)) h.x.size (λ_ _ _ h=>h)))).mono λe w' ⟨h1,h2⟩=>⟨h1,h.below h2⟩
theorem qc{A L:Option Addr}{cap d8 i:Nat}{d:Dv}(h:Sx B0 W0 nb sb S M kb mb (.slice A ds.length cap) (.slice L ls.length d8) ds ls bl T k P W)(hz:netV ds ls=0)(hk:0<=k/\k<1000000)(hd:ds[i]?=some d)(hdv:devC d=0)(hd0:Devs B0 W0 (.slice A ds.length cap) ds)(hO:∀c,c<16384->1<portsV d.kind->wasB T k ((i:Int),1) c=true->(peerF ls (i:Int) 1).isSome=true) :
  Calls prog 38 #[.pointer (some ⟨S,0,none⟩),.agg #[.slice A ds.length cap,.slice L ls.length d8],.int .i64 (i:Int),.int .i64 k,.func (.func 36) #[] #[.pointer (some ⟨nb,0,none⟩),.pointer (some ⟨sb,0,none⟩),.pointer (some ⟨kb,0,none⟩),.pointer (some ⟨mb,0,none⟩)]] W λe w'=>e=.returned (.tuple #[])/\Sx B0 W0 nb sb S M kb mb (.slice A ds.length cap) (.slice L ls.length d8) ds ls bl T k (un P (S6 d (i:Int) ls T k)) w':=by
 obtain⟨hkd,ha,hbs,_,_⟩:=bi hdv;have hl3:=(qb hdv).1;have hil:=(List.getElem?_eq_some_iff.1 hd).1;obtain⟨b,o,vb,vr,vt,rfl,hlt,sb1,sr1,st1,c0,c1,c2,c3,c4,c5,c6⟩:=hd0.at hd;have hp:nb<W.heap.size/\sb<W.heap.size/\S<W.heap.size/\M<W.heap.size/\kb<W.heap.size/\B0<=W.heap.size:=⟨h.n.lt,h.s.lt,h.S.lt,h.map.lt,h.k.lt,h.size⟩;have H:Hid (DV (λbx Q W'=>Dx B0 W0 nb sb S M kb mb (.slice (some ⟨b,o,none⟩) ds.length cap) (.slice L ls.length d8) ds ls bl T k W.heap.size bx Q W') d i ls T k S nb sb kb mb (.agg #[.slice (some ⟨b,o,none⟩) ds.length cap,.slice L ls.length d8]) vr vt):=dx_dv hz hk hd sr1 st1 hp;have HL:Hid (DL (λbx Q W'=>Dx B0 W0 nb sb S M kb mb (.slice (some ⟨b,o,none⟩) ds.length cap) (.slice L ls.length d8) ds ls bl T k W.heap.size bx Q W') W.heap.size):=dx_dl hp;have V0:Dx B0 W0 nb sb S M kb mb (.slice (some ⟨b,o,none⟩) ds.length cap) (.slice L ls.length d8) ds ls bl T k W.heap.size [] P W:=⟨h,Nat.le_refl _,⟨h.m.lt,λt b e=>(h.row t b e).1.lt⟩,λy hy=>by cases hy⟩;have HD:Hid (∀bx Q W',Dx B0 W0 nb sb S M kb mb (.slice (some ⟨b,o,none⟩) ds.length cap) (.slice L ls.length d8) ds ls bl T k W.heap.size bx Q W'->W'.cell? ⟨b,o+i*7,none⟩=some (.string d.name)/\W'.cell? ⟨b,o+i*7+1,none⟩=some (.int .i64 d.kind)/\W'.cell? ⟨b,o+i*7+2,none⟩=some (.int .i64 d.addr)/\W'.cell? ⟨b,o+i*7+3,none⟩=some (.int .u8 (d.pool:Int))/\W'.cell? ⟨b,o+i*7+4,none⟩=some vb/\W'.cell? ⟨b,o+i*7+5,none⟩=some vr/\W'.cell? ⟨b,o+i*7+6,none⟩=some vt):=λbx Q W' hv=>by
  have hb:=hv.x.bel;have e:∀j,W'.cell? ⟨b,j,none⟩=W0.cell? ⟨b,j,none⟩:=λj=>hb.cell (p:=⟨b,j,none⟩) hlt;exact⟨(e _).trans c0,(e _).trans c1,(e _).trans c2,(e _).trans c3,(e _).trans c4,(e _).trans c5,(e _).trans c6⟩
 have hv:(∃A n c,vb=.slice A n c)/\(∃A n c,vr=.slice A n c)/\∃A n c,vt=.slice A n c:=by
  obtain⟨a1,b1,e1,_⟩:=sb1;obtain⟨a2,b2,e2,_⟩:=sr1;obtain⟨a3,b3,e3,_⟩:=st1;exact⟨⟨_,_,_,e1⟩,⟨_,_,_,e2⟩,⟨_,_,_,e3⟩⟩
 have HB:Hid (∀bx Q W',Dx B0 W0 nb sb S M kb mb (.slice (some ⟨b,o,none⟩) ds.length cap) (.slice L ls.length d8) ds ls bl T k W.heap.size bx Q W'->SlAt W'.heap.size W' 1 IsI vb d.backs):=λbx Q W' hx=>SlAt.mono (SlAt.below sb1 hx.x.bel (λ_ _ _ h=>h)) hx.x.size (λ_ _ _ h=>h);have hi:(i:Int)<(ds.length:Int):=by omega
 by_cases k2:d.kind=2
 ·refine(rf _ d i ls T k S nb sb kb mb b o _ cap _ L d8 vb vr vt P W hi k2 H V0 HD hv).mono λe w' ⟨h1,h2⟩=>⟨h1,?_⟩;rw[show((4:Nat):Int)=4 from rfl,dev2 k2]at h2;exact h2.x
 by_cases k3:d.kind=3
 ·refine(rg _ d i ls T k S nb sb kb mb b o _ cap _ L d8 vb vr vt P W hi k3 H V0 HD hv).mono λe w' ⟨h1,h2⟩=>⟨h1,?_⟩;rw[show((2:Nat):Int)=2 from rfl,dev3 k3 (λc hc=>hO c hc (by rw[k3];decide))]at h2;exact h2.x
 by_cases k4:d.kind=4
 ·cases hop:(peerF ls (i:Int) 1).isSome with
  | true =>
    refine(pZ _ d i ls T k S nb sb kb mb b o _ cap _ L d8 vb vr vt P W hop hi k4 H V0 HD hv W.heap.size HL ha d.hp).mono λe w' ⟨h1,os,h2,h3⟩=>⟨h1,?_⟩;rw[show((2:Nat):Int)=2 from rfl,dev4 k4 ha h2]at h3;exact h3.x
  | false =>
    refine(oI _ d i ls T k S nb sb kb mb b o _ cap _ L d8 vb vr vt P W hop hi k4 H V0 HD hv ha d.hp).mono λe w' ⟨h1,h3⟩=>⟨h1,?_⟩;rw[show((2:Nat):Int)=2 from rfl,dev4f k4 ha (λc hc=>by
     cases hw:wasB T k ((i:Int),1) c
     ·rfl
     ·have:=hO c hc (by rw[k4];decide) hw;rw[hop]at this;cases this)]at h3
    exact h3.x
 by_cases k5:d.kind=5
 ·refine(oo _ d i ls T k S nb sb kb mb b o _ cap _ L d8 vb vr vt P W hi k5 H V0 HD hv ha hbs hl3 HB).mono λe w' ⟨h1,h2⟩=>⟨h1,?_⟩;rw[show((2:Nat):Int)=2 from rfl,dev5 k5 ha hbs (λc hc=>hO c hc (by rw[k5];decide))]at h2;exact h2.x
 obtain⟨Pn,hP,hP4⟩:∃Pn:Nat,portsV d.kind=(Pn:Int)/\Pn<=4:=by
  have hk1:d.kind=1:=by omega
  exact⟨1,by rw[hk1];rfl,by omega⟩
 refine(ot _ d i ls T k S nb sb kb mb b o _ cap _ L d8 vb vr vt P W hi Pn hP4 hP (by simpa using k2) (by simpa using k3) (by simpa using k4) (by simpa using k5) H V0 HD hv).mono λe w' ⟨h1,h2⟩=>⟨h1,?_⟩;rw[mV (by omega),N7 (λ_ _ h=>h)];exact h2.x
end
theorem qd(A L:Option Addr)(cap d8:Nat)(ds:List Dv)(ls:List Lk)(w:World)(hz:Hid (netV ds ls=0))(hD:Hid (Devs w.heap.size w (.slice A ds.length cap) ds))(hL:Hid (Links w.heap.size w (.slice L ls.length d8) ls)) :
  Calls prog 9 #[.agg #[.slice A ds.length cap,.slice L ls.length d8]] w λe w'=>∃(S M:Nat) (bl:(Int × Int)->Option Nat) (T:Tab) (k:Nat),e=.returned (.pointer (some ⟨S,0,none⟩))/\SpV ds ls S M bl T k w'/\Below w.heap.size w w' :=
 qP A L cap d8 ds ls w hz hD hL λ_ _ _ _ _ _ _ _ _ _ _ d hx hk hd hO=>qc hx hz.out hk hd (aD hz.out d (List.mem_of_getElem? hd)) hD.out hO
end Go.Proofs.YtppbfikimalojaaGreat
namespace Go.Proofs.YtppbfikimalojaaGreat
open Tryz
open Go.RowKit
abbrev prV(a b:Int):Value:=.agg #[.int .i64 a,.int .i64 b]
def H4(xs:List (Int × Int)):List Value:=xs.flatMap λp=>[.int .i64 p.1,.int .i64 p.2]
theorem qe(p:Int × Int)(l:List (Int × Int)):H4 (p::l)=.int .i64 p.1::.int .i64 p.2::H4 l:=rfl
theorem qg(a b:List (Int × Int)):H4 (a++b)=H4 a++H4 b:=by simp[H4]
theorem jB:∀(xs:List (Int × Int)) (k:Nat) (p:Int × Int),xs[k]?=some p->(H4 xs)[k*2]?=some (.int .i64 p.1)/\(H4 xs)[k*2+1]?=some (.int .i64 p.2)
 | [],k,p,h=>by simp at h
 | x::l,0,p,h=>by
   obtain rfl:x=p:=by simpa using h
   exact⟨rfl,rfl⟩
 | x::l,k+1,p,h=>by
   have ih:=jB l k p (by simpa using h);rw[qe,show(k+1)*2=k*2+1+1 by omega,show k*2+1+1+1=(k*2+1)+1+1 by omega];exact ih
def Prs(b9:Nat)(w:World)(v:Value)(xs:List (Int × Int)):Prop :=
 ∃A cap,v=.slice A xs.length cap/\xs.length<=cap/\cap<=maxLen/\(xs≠[]->∃b o,A=some ⟨b,o,none⟩/\b<b9/\∀k p,xs[k]?=some p->w.cell? ⟨b,o+k*2,none⟩=some (.int .i64 p.1)/\w.cell? ⟨b,o+k*2+1,none⟩=some (.int .i64 p.2))
theorem Prs.below{b9:Nat}{w w':World}{v:Value}{xs:List (Int × Int)}(h:Prs b9 w v xs)(hb:Below b9 w w'):Prs b9 w' v xs:=by
 obtain⟨A,cap,e,h1,h2,h3⟩:=h;refine⟨A,cap,e,h1,h2,λhn=>?_⟩;obtain⟨b,o,ea,hl,hr⟩:=h3 hn;refine⟨b,o,ea,hl,λk p hk=>?_⟩;obtain⟨c0,c1⟩:=hr k p hk;exact⟨(hb.cell (p:=⟨b,_,none⟩) hl).trans c0,(hb.cell (p:=⟨b,_,none⟩) hl).trans c1⟩
theorem Prs.mono{b9 base':Nat}{w:World}{v:Value}{xs:List (Int × Int)}(h:Prs b9 w v xs)(hb:b9<=base'):Prs base' w v xs:=by
 obtain⟨A,cap,e,h1,h2,h3⟩:=h;refine⟨A,cap,e,h1,h2,λhn=>?_⟩;obtain⟨b,o,ea,hl,hr⟩:=h3 hn;exact⟨b,o,ea,by omega,hr⟩
theorem Prs.own{b9:Nat}{w:World}{t:TypeId}{v:Value}{xs:List (Int × Int)}(h:w.ownsRow b9 t 2 v xs.length (H4 xs)):Prs w.heap.size w v xs:=by
 have hh:=h;obtain⟨hl,hc⟩:=h;rcases hc with⟨rfl,h0⟩|⟨g,cap,cur,rfl,hb,hg,hn,hcap,hs,ht⟩
 ·exact⟨none,0,by rw[h0],by omega,by unfold maxLen;omega,λhn=>absurd (List.length_eq_zero_iff.1 h0) hn⟩
 ·refine⟨_,cap,rfl,hn,hcap,λ_=>⟨g,0,rfl,(Array.getElem?_eq_some_iff.1 hg).1,λk p hk=>?_⟩⟩;obtain⟨c0,c1⟩:=jB xs k p hk;have e0:=hh.cells (g:=g) rfl _ _ c0;have e1:=hh.cells (g:=g) rfl _ _ c1;rw[Addr.add_lit]at e0 e1;exact⟨e0,e1⟩
theorem tz12:prog.underlying 94=some (.slice 97):=by kernel_rfl
theorem tz13:(prog.info? 97).map (λi=>(i.zero,i.size,i.bytes))=some (some (.agg #[.int .i64 0,.int .i64 0]),2,16):=by kernel_rfl
theorem jC(a b c d:Int)(w:World):(binOp .eql 97 (prV a b) (prV c d)).run prog w=.ok (.bool ((a == c)&&(b == d))) w:=by
 obtain⟨i,hi⟩:∃i,prog.info? 3=some i:=by
  have h:(prog.info? 3).isSome=true:=by kernel_rfl
  exact Option.isSome_iff_exists.1 h
 rw[run_eql_struct,show(10000:Nat)=9998+1+1 from rfl,run_equalIn_array w (9998+1) _ _ underlying97 hi,dO,show List.range 2=[0,1]from rfl];have p0:∀(x y:Int) (w:World),(part 3 #[.int .i64 x,.int .i64 y] (0*1)).run prog w=.ok (.int .i64 x) w:=λ_ _ _=>by kernel_rfl
 have p1:∀(x y:Int) (w:World),(part 3 #[.int .i64 x,.int .i64 y] 1).run prog w=.ok (.int .i64 y) w:=λ_ _ _=>by kernel_rfl
 have q:∀(x y:Int) (w:World),(Op.equalIn 9999 3 (.int .i64 x) (.int .i64 y)).run prog w=.ok (x == y) w:=λx y w=>run_equalIn_int w 9998 3 .i64 .i64 x y underlying3;simp only[Op.eqItems,Sem.run_bind,p0,Result.andThen_ok,q];cases h1:(a == c) <;> cases h2:(b == d) <;> simp[p1,q,h2]
theorem qh{xs:List (Int × Int)}{k:Nat}{p q:Int × Int}(h:xs[k]?=some p):(xs.take (k+1)).any (λx=>(q.1 == x.1)&&(q.2 == x.2))=((xs.take k).any (λx=>(q.1 == x.1)&&(q.2 == x.2))||((q.1 == p.1)&&(q.2 == p.2))):=by
 obtain⟨hk,e⟩:=List.getElem?_eq_some_iff.1 h;rw[List.take_succ_eq_append_getElem hk,e];simp
def hasP(xs:List (Int × Int))(q:Int × Int):Bool:=xs.any (λx=>(q.1 == x.1)&&(q.2 == x.2))
theorem qi(v:Value)(xs:List (Int × Int))(a b:Int)(w:World)(hP:Hid (Prs w.heap.size w v xs)) :
  Calls prog 72 #[v,prV a b] w λe w'=>∃j:Int,e=.returned (.int .i64 j)/\Hid (decide (0<=j)=hasP xs (a,b))/\Below w.heap.size w w':=by
 obtain⟨A,cap,rfl,h1,h2,_⟩:=id hP.out;unfold maxLen at h2;generalize hres:hasP xs (a,b)=res;have HR:Hid (hasP xs (a,b)=res):=hres;clear hres;have D0:=Below.alN (Below.refl w.heap.size w) (.cells #[.int .i64 a,.int .i64 b] 97);have B0:=T7 w (.int .i64 a) (.int .i64 b) 97;go_enter func72,ntmps72;go_wp2_with fail;go_loopw[8] (λi wr=>∃k:Nat,i=.int .i64 (k:Int)/\k<=xs.length/\Below w.heap.size w wr/\Box2 wr w.heap.size (.int .i64 a) (.int .i64 b)/\Hid ((xs.take k).any (λx=>(a == x.1)&&(b == x.2))=false)) (λi _=>xs.length-(intOf i).toNat)
 case atStart=>exact⟨0,rfl,by omega,D0,B0,rfl⟩
 case round =>
  clear D0 B0;obtain⟨k,rfl,hk,D1,B1,hno⟩:=hrel;by_cases hlt:k<xs.length
  ·obtain⟨p,hxk⟩:∃p,xs[k]?=some p:=⟨_,List.getElem?_eq_getElem hlt⟩;obtain⟨A',d8,e,_,_,h3⟩:=hP.out.below D1;cases e;obtain⟨g,o,rfl,hg,hc⟩:=h3 (λe=>by subst e;simp at hxk);obtain⟨c0,c1⟩:=hc k p hxk;have PE:=λw=>jC a b p.1 p.2 w;have HT:Hid ((xs.take (k+1)).any (λx=>(a == x.1)&&(b == x.2))=((xs.take k).any (λx=>(a == x.1)&&(b == x.2))||((a == p.1)&&(b == p.2)))):=qh (q:=(a,b)) hxk;have HM:Hid (((a == p.1)&&(b == p.2))=true->hasP xs (a,b)=true):=λh=>List.any_eq_true.2 ⟨p,List.mem_of_getElem? hxk,h⟩;have k1:(0:Int)<=(k:Int):=by omega
   have k2:(k:Int)<(xs.length:Int):=by omega
   obtain⟨_,q0,q1,_⟩:=id B1;clear hxk hc h3 hP;generalize ((a == p.1)&&(b == p.2))=y at *;generalize p.1=px at *;generalize p.2=py at *;cases y
   ·have HV:Hid ((xs.take (k+1)).any (λx=>(a == x.1)&&(b == x.2))=false):=by
     show _=_;rw[HT.out,hno.out];rfl
    clear HT HM hno;go_wp2_with fail
    go_quiet (fail)
    go_wp2_with fail;go_roundw
    case rel=>exact⟨k+1,by go_num,by omega,I7 D1 _,B1,HV⟩
    case measure=>simp[intOf];omega
   ·have HV:Hid (res=true):=by
     show _=_;rw[<- HR.out,HM.out rfl]
    clear HT HM hno;go_wp2_with fail
    go_quiet (fail)
    go_wp2_with fail;go_ret;exact⟨_,rfl,(by show _=_;rw[HV.out];simp),I7 D1 _⟩
  ·have HV:Hid (res=false):=by
    show _=_;rw[<- HR.out];have:=hno.out;rw[show k=xs.length by omega,List.take_length]at this;exact this
   go_wp2_with fail;go_ret;exact⟨_,rfl,(by show _=_;rw[HV.out];simp),D1⟩
theorem jD(v:Value)(xs:List (Int × Int))(a b:Int)(w:World)(hP:Prs w.heap.size w v xs) :
  Calls prog 34 #[v,prV a b] w λe w'=>e=.returned (.bool (hasP xs (a,b)))/\Below w.heap.size w w':=by
 have D0:=Below.alN (Below.refl w.heap.size w) (.cells #[.int .i64 a,.int .i64 b] 97);have IX:Hid (∀W,Below w.heap.size w W->Calls prog 72 #[v,prV a b] W λe w'=>∃j:Int,e=.returned (.int .i64 j)/\Hid (decide (0<=j)=hasP xs (a,b))/\Below W.heap.size W w'):=λW h=>qi v xs a b W ((hP.below h).mono h.size);obtain⟨A,cap,rfl,_,_,_⟩:=hP;generalize hasP xs (a,b)=x at *;go_enter func34,ntmps34;go_wp2_with fail;refine(IX.out _ D0).mono ?_;rintro e w2⟨j,rfl,hj,hb2⟩;have D2:=f7 hb2 D0;clear IX;go_wp2_with fail;go_ret;exact⟨by rw[hj.out];rfl,D2⟩
theorem qj{b9:Nat}{w:World}{v:Value}{xs:List (Int × Int)}{tb:Nat}{a b c d:Int}(ty:TypeId)(h:w.ownsRow b9 97 2 v xs.length (H4 xs))(c0:w.cell? ⟨tb,0,none⟩=some (.int .i64 a))(c1:w.cell? ⟨tb,1,none⟩=some (.int .i64 b))(c2:w.cell? ⟨tb,2,none⟩=some (.int .i64 c))(c3:w.cell? ⟨tb,3,none⟩=some (.int .i64 d))(hs:xs.length<=1099511627776)(hb:b9<=w.heap.size) :
  ∃v' w',(Builtin.append_ #[94,94] ty #[v,.slice (some ⟨tb,0,none⟩) 2 2]).run prog w=.ok v' w'/\w'.ownsRow b9 97 2 v' (xs++[(a,b),(c,d)]).length (H4 (xs++[(a,b),(c,d)]))/\w.grownBy w' v.ownBlock:=by
 obtain⟨i0,hi,hz0,hz1,hz2⟩:=info_parts tz13;obtain⟨v',w',hr,h4,h5,_⟩:=run_append_own (P:=prog) w b9 94 ty 97 i0 _ 2 16 tz12 hi hz0 hz1 hz2 rfl (by decide) v xs.length (H4 xs) h ⟨tb,0,none⟩ 2 2 (H4 [(a,b),(c,d)]) rfl (λj u hj=>by
   rw[Addr.add_lit,Nat.zero_add]
   match j,hj with
   | 0,hj=>obtain rfl:=Option.some.inj hj;exact c0
   | 1,hj=>obtain rfl:=Option.some.inj hj;exact c1
   | 2,hj=>obtain rfl:=Option.some.inj hj;exact c2
   | 3,hj=>obtain rfl:=Option.some.inj hj;exact c3) (λu hu=>by
     simp only[H4,List.flatMap_cons,List.flatMap_nil,List.append_nil,List.cons_append,List.nil_append,List.mem_cons,List.not_mem_nil,or_false]at hu;rcases hu with rfl|rfl|rfl|rfl <;> rfl) (by unfold maxLen;omega) (by omega) hb
 rw[List.length_append,qg];exact⟨v',w',hr,h4,h5⟩
theorem Below.app2{B b9:Nat}{w0 w w':World}{t:TypeId}{s n:Nat}{v:Value}{cs:List Value}(h:Below B w0 w)(ho:w.ownsRow b9 t s v n cs)(hg:w.grownBy w' v.ownBlock)(hB:B<=b9)(hb:b9<=w.heap.size):Below B w0 w' :=
 h.grown hg (by omega) (λk e=>by have:=(ho.lt k e).1;omega)
theorem qk{P:Program}{w w':World}{ops:Array Oper}{rest:List Oper}{o:Oper}{a:Act}{Q:Exit->Act->World->Prop}(hgd:o.guard=none)(s x:Operand)(t:TypeId)
  (ho:o.op=.call { callee:=.builtin .append,args:=#[s,x],argTypes:=#[t,t] }) {v x' v':Value} (hs:a.eval s=v) (hx:a.eval x=x') (hr:(Builtin.append_ #[t,t] o.type #[v,x']).run P w=.ok v' w')
  (h:wpList P ops Q rest (a.put o.dst v') w'):wpList P ops Q (o::rest) a w:=by
 refine wpList_plain hgd λK hK=>?_;unfold Oper.wp execOp;simp only[ho,resolve,invoke,builtin,Sem.run_bind,Sem.run_pure,Result.andThen_ok,List.map_toArray,List.map_cons,List.map_nil,hs,hx,hr];exact hK _ _ h
theorem qm(nm:ByteArray)(ad:Int)(pl:Nat)(Ab Ar At:Option Addr)(nb cb nr cr nt ct:Nat)(c:Int)(w:World)
  (RT:Hid (∀W,Below w.heap.size w W->Calls prog 71 #[.slice At nt ct] W λe w'=>e=.returned (.int .i64 c)/\Below W.heap.size W w')) :
  Calls prog 33 #[.agg #[.string nm,.int .i64 1,.int .i64 ad,.int .u8 (pl:Int),.slice Ab nb cb,.slice Ar nr cr,.slice At nt ct]] w λe w'=>e=.returned (.int .i64 (if(!(decide (0<=ad)&&decide (ad<=15)))||(decide (0<pl) != false)then 1 else if 3<nb then 2 else if 0<nb then 1 else if(decide (0<nr))||(decide (0<nt))then 1 else if 8<nr then 2 else c))/\Below w.heap.size w w':=by
 have D0:=Below.alN (Below.refl w.heap.size w) (.cells #[.string nm,.int .i64 1,.int .i64 ad,.int .u8 (pl:Int),.slice Ab nb cb,.slice Ar nr cr,.slice At nt ct] 56);have I0:Hid (∀w,Calls prog 8 #[.int .i64 1,.int .i64 1,.int .i64 5] w λe w'=>e=.returned (.bool true)/\w'=w):=λw=>inN 1 1 5 w;have V0:=aL w (.string nm) (.int .i64 1) (.int .i64 ad) (.int .u8 (pl:Int)) (.slice Ab nb cb) (.slice Ar nr cr) (.slice At nt ct) 56;obtain⟨_,q0,q1,q2,q3,q4,q5,q6⟩:=id V0;have I1:Hid (∀w,Calls prog 8 #[.int .i64 ad,.int .i64 0,.int .i64 15] w λe w'=>e=.returned (.bool (decide (0<=ad)&&decide (ad<=15)))/\w'=w):=λw=>inN ad 0 15 w;generalize (decide (0<=ad)&&decide (ad<=15))=x0 at *;cases x0
 ·go_enter func33,ntmps33;go_wp2_with (first|(go_at_call_of 8 (Value.int .i64 1);refine(I0.out _).mono ?_;rintro e w'⟨rfl,rfl⟩)|(go_at_call_of 8 (Value.int .i64 ad);refine(I1.out _).mono ?_;rintro e w'⟨rfl,rfl⟩));go_ret;first|exact⟨rfl,D0⟩|exact⟨by simp,D0⟩
 cases p0:decide (0<pl)
 ·have p1:decide ((0:Int)<(pl:Int))=false:=by rw[<- p0];simp
  by_cases n3:3<nb
  ·have u3:decide ((3:Int)<(nb:Int))=true:=by simp;omega
   go_enter func33,ntmps33;go_wp2_with (first|(go_at_call_of 8 (Value.int .i64 1);refine(I0.out _).mono ?_;rintro e w'⟨rfl,rfl⟩)|(go_at_call_of 8 (Value.int .i64 ad);refine(I1.out _).mono ?_;rintro e w'⟨rfl,rfl⟩));go_ret;first|exact⟨rfl,D0⟩|exact⟨by simp,D0⟩
  have u3:decide ((3:Int)<(nb:Int))=false:=by simp;omega
  by_cases n0:0<nb
  ·have u0:((nb:Int) == 0)=false:=by simp;omega
   go_enter func33,ntmps33;go_wp2_with (first|(go_at_call_of 8 (Value.int .i64 1);refine(I0.out _).mono ?_;rintro e w'⟨rfl,rfl⟩)|(go_at_call_of 8 (Value.int .i64 ad);refine(I1.out _).mono ?_;rintro e w'⟨rfl,rfl⟩));go_ret;first|exact⟨rfl,D0⟩|exact⟨by simp,D0⟩
  obtain rfl:nb=0:=by omega
  clear n3 u3 n0;by_cases r0:0<nr
  ·have v0:decide ((0:Int)<(nr:Int))=true:=by simp;omega
   go_enter func33,ntmps33;go_wp2_with (first|(go_at_call_of 8 (Value.int .i64 1);refine(I0.out _).mono ?_;rintro e w'⟨rfl,rfl⟩)|(go_at_call_of 8 (Value.int .i64 ad);refine(I1.out _).mono ?_;rintro e w'⟨rfl,rfl⟩));go_loopw[4] (λi wr=>i=.int .i64 0/\wr=(w.alloc (.cells #[.string nm,.int .i64 1,.int .i64 ad,.int .u8 (pl:Int),.slice Ab 0 cb,.slice Ar nr cr,.slice At nt ct] 56))) (λi _=>0)
   case atStart=>exact⟨rfl,rfl⟩
   case round =>
    obtain⟨rfl,rfl⟩:=hrel;go_wp2_with fail;go_ret;first|exact⟨rfl,D0⟩|exact⟨by simp,D0⟩
  have v0:decide ((0:Int)<(nr:Int))=false:=by simp;omega
  by_cases t0:0<nt
  ·have z0:decide ((0:Int)<(nt:Int))=true:=by simp;omega
   go_enter func33,ntmps33;go_wp2_with (first|(go_at_call_of 8 (Value.int .i64 1);refine(I0.out _).mono ?_;rintro e w'⟨rfl,rfl⟩)|(go_at_call_of 8 (Value.int .i64 ad);refine(I1.out _).mono ?_;rintro e w'⟨rfl,rfl⟩));go_loopw[4] (λi wr=>i=.int .i64 0/\wr=(w.alloc (.cells #[.string nm,.int .i64 1,.int .i64 ad,.int .u8 (pl:Int),.slice Ab 0 cb,.slice Ar nr cr,.slice At nt ct] 56))) (λi _=>0)
   case atStart=>exact⟨rfl,rfl⟩
   case round =>
    obtain⟨rfl,rfl⟩:=hrel;go_wp2_with fail;go_ret;first|exact⟨rfl,D0⟩|exact⟨by simp,D0⟩
  have z0:decide ((0:Int)<(nt:Int))=false:=by simp;omega
  have r8:¬ 8<nr:=by omega
  have v8:decide ((8:Int)<(nr:Int))=false:=by simp;omega
  go_enter func33,ntmps33;go_wp2_with (first|(go_at_call_of 8 (Value.int .i64 1);refine(I0.out _).mono ?_;rintro e w'⟨rfl,rfl⟩)|(go_at_call_of 8 (Value.int .i64 ad);refine(I1.out _).mono ?_;rintro e w'⟨rfl,rfl⟩));go_loopw[4] (λi wr=>i=.int .i64 0/\wr=(w.alloc (.cells #[.string nm,.int .i64 1,.int .i64 ad,.int .u8 (pl:Int),.slice Ab 0 cb,.slice Ar nr cr,.slice At nt ct] 56))) (λi _=>0)
  case atStart=>exact⟨rfl,rfl⟩
  case round =>
   obtain⟨rfl,rfl⟩:=hrel;go_wp2_with fail;refine(RT.out _ D0).mono ?_;rintro e w2⟨rfl,hb2⟩;have D2:=f7 hb2 D0;go_wp2_with fail;go_ret;first|exact⟨rfl,D2⟩|exact⟨by simp,D2⟩
 ·have p1:decide ((0:Int)<(pl:Int))=true:=by rw[<- p0];simp
  go_enter func33,ntmps33;go_wp2_with (first|(go_at_call_of 8 (Value.int .i64 1);refine(I0.out _).mono ?_;rintro e w'⟨rfl,rfl⟩)|(go_at_call_of 8 (Value.int .i64 ad);refine(I1.out _).mono ?_;rintro e w'⟨rfl,rfl⟩));go_ret;first|exact⟨rfl,D0⟩|exact⟨by simp,D0⟩
theorem rdev_2(nm:ByteArray)(ad:Int)(pl:Nat)(Ab Ar At:Option Addr)(nb cb nr cr nt ct:Nat)(c:Int)(w:World)
  (RT:Hid (∀W,Below w.heap.size w W->Calls prog 71 #[.slice At nt ct] W λe w'=>e=.returned (.int .i64 c)/\Below W.heap.size W w')) :
  Calls prog 33 #[.agg #[.string nm,.int .i64 2,.int .i64 ad,.int .u8 (pl:Int),.slice Ab nb cb,.slice Ar nr cr,.slice At nt ct]] w λe w'=>e=.returned (.int .i64 (if(!(ad == 0))||(decide (0<pl) != false)then 1 else if 3<nb then 2 else if 0<nb then 1 else if false then 1 else if 8<nr then 2 else c))/\Below w.heap.size w w':=by
 have D0:=Below.alN (Below.refl w.heap.size w) (.cells #[.string nm,.int .i64 2,.int .i64 ad,.int .u8 (pl:Int),.slice Ab nb cb,.slice Ar nr cr,.slice At nt ct] 56);have I0:Hid (∀w,Calls prog 8 #[.int .i64 2,.int .i64 1,.int .i64 5] w λe w'=>e=.returned (.bool true)/\w'=w):=λw=>inN 2 1 5 w;have V0:=aL w (.string nm) (.int .i64 2) (.int .i64 ad) (.int .u8 (pl:Int)) (.slice Ab nb cb) (.slice Ar nr cr) (.slice At nt ct) 56;obtain⟨_,q0,q1,q2,q3,q4,q5,q6⟩:=id V0;cases a0:(ad == 0)
 ·have a1:(ad != 0)=true:=by simp[bne,a0]
  go_enter func33,ntmps33;go_wp2_with (go_at_call_of 8 (Value.int .i64 2);refine(I0.out _).mono ?_;rintro e w'⟨rfl,rfl⟩);go_ret;first|exact⟨rfl,D0⟩|exact⟨by simp,D0⟩
 have a1:(ad != 0)=false:=by simp[bne,a0]
 cases p0:decide (0<pl)
 ·have p1:decide ((0:Int)<(pl:Int))=false:=by rw[<- p0];simp
  by_cases n3:3<nb
  ·have u3:decide ((3:Int)<(nb:Int))=true:=by simp;omega
   go_enter func33,ntmps33;go_wp2_with (go_at_call_of 8 (Value.int .i64 2);refine(I0.out _).mono ?_;rintro e w'⟨rfl,rfl⟩);go_ret;first|exact⟨rfl,D0⟩|exact⟨by simp,D0⟩
  have u3:decide ((3:Int)<(nb:Int))=false:=by simp;omega
  by_cases n0:0<nb
  ·have u0:((nb:Int) == 0)=false:=by simp;omega
   go_enter func33,ntmps33;go_wp2_with (go_at_call_of 8 (Value.int .i64 2);refine(I0.out _).mono ?_;rintro e w'⟨rfl,rfl⟩);go_ret;first|exact⟨rfl,D0⟩|exact⟨by simp,D0⟩
  obtain rfl:nb=0:=by omega
  clear n3 u3 n0;by_cases r0:0<nr
  ·have v0:decide ((0:Int)<(nr:Int))=true:=by simp;omega
   by_cases r8:8<nr
   ·have v8:decide ((8:Int)<(nr:Int))=true:=by simp;omega
    by_cases t0:0<nt
    ·have z0:decide ((0:Int)<(nt:Int))=true:=by simp;omega
     go_enter func33,ntmps33;go_wp2_with (go_at_call_of 8 (Value.int .i64 2);refine(I0.out _).mono ?_;rintro e w'⟨rfl,rfl⟩);go_loopw[4] (λi wr=>i=.int .i64 0/\wr=(w.alloc (.cells #[.string nm,.int .i64 2,.int .i64 ad,.int .u8 (pl:Int),.slice Ab 0 cb,.slice Ar nr cr,.slice At nt ct] 56))) (λi _=>0)
     case atStart=>exact⟨rfl,rfl⟩
     case round =>
      obtain⟨rfl,rfl⟩:=hrel;go_wp2_with fail;go_ret;first|exact⟨rfl,D0⟩|exact⟨by simp,D0⟩
    ·have z0:decide ((0:Int)<(nt:Int))=false:=by simp;omega
     go_enter func33,ntmps33;go_wp2_with (go_at_call_of 8 (Value.int .i64 2);refine(I0.out _).mono ?_;rintro e w'⟨rfl,rfl⟩);go_loopw[4] (λi wr=>i=.int .i64 0/\wr=(w.alloc (.cells #[.string nm,.int .i64 2,.int .i64 ad,.int .u8 (pl:Int),.slice Ab 0 cb,.slice Ar nr cr,.slice At nt ct] 56))) (λi _=>0)
     case atStart=>exact⟨rfl,rfl⟩
     case round =>
      obtain⟨rfl,rfl⟩:=hrel;go_wp2_with fail;go_ret;first|exact⟨rfl,D0⟩|exact⟨by simp,D0⟩
   have v8:decide ((8:Int)<(nr:Int))=false:=by simp;omega
   by_cases t0:0<nt
   ·have z0:decide ((0:Int)<(nt:Int))=true:=by simp;omega
    go_enter func33,ntmps33;go_wp2_with (go_at_call_of 8 (Value.int .i64 2);refine(I0.out _).mono ?_;rintro e w'⟨rfl,rfl⟩);go_loopw[4] (λi wr=>i=.int .i64 0/\wr=(w.alloc (.cells #[.string nm,.int .i64 2,.int .i64 ad,.int .u8 (pl:Int),.slice Ab 0 cb,.slice Ar nr cr,.slice At nt ct] 56))) (λi _=>0)
    case atStart=>exact⟨rfl,rfl⟩
    case round =>
     obtain⟨rfl,rfl⟩:=hrel;go_wp2_with fail;refine(RT.out _ D0).mono ?_;rintro e w2⟨rfl,hb2⟩;have D2:=f7 hb2 D0;go_wp2_with fail;go_ret;first|exact⟨rfl,D2⟩|exact⟨by simp,D2⟩
   ·have z0:decide ((0:Int)<(nt:Int))=false:=by simp;omega
    go_enter func33,ntmps33;go_wp2_with (go_at_call_of 8 (Value.int .i64 2);refine(I0.out _).mono ?_;rintro e w'⟨rfl,rfl⟩);go_loopw[4] (λi wr=>i=.int .i64 0/\wr=(w.alloc (.cells #[.string nm,.int .i64 2,.int .i64 ad,.int .u8 (pl:Int),.slice Ab 0 cb,.slice Ar nr cr,.slice At nt ct] 56))) (λi _=>0)
    case atStart=>exact⟨rfl,rfl⟩
    case round =>
     obtain⟨rfl,rfl⟩:=hrel;go_wp2_with fail;refine(RT.out _ D0).mono ?_;rintro e w2⟨rfl,hb2⟩;have D2:=f7 hb2 D0;go_wp2_with fail;go_ret;first|exact⟨rfl,D2⟩|exact⟨by simp,D2⟩
  ·have v0:decide ((0:Int)<(nr:Int))=false:=by simp;omega
   have r8:¬ 8<nr:=by omega
   have v8:decide ((8:Int)<(nr:Int))=false:=by simp;omega
   by_cases t0:0<nt
   ·have z0:decide ((0:Int)<(nt:Int))=true:=by simp;omega
    go_enter func33,ntmps33;go_wp2_with (go_at_call_of 8 (Value.int .i64 2);refine(I0.out _).mono ?_;rintro e w'⟨rfl,rfl⟩);go_loopw[4] (λi wr=>i=.int .i64 0/\wr=(w.alloc (.cells #[.string nm,.int .i64 2,.int .i64 ad,.int .u8 (pl:Int),.slice Ab 0 cb,.slice Ar nr cr,.slice At nt ct] 56))) (λi _=>0)
    case atStart=>exact⟨rfl,rfl⟩
    case round =>
     obtain⟨rfl,rfl⟩:=hrel;go_wp2_with fail;refine(RT.out _ D0).mono ?_;rintro e w2⟨rfl,hb2⟩;have D2:=f7 hb2 D0;go_wp2_with fail;go_ret;first|exact⟨rfl,D2⟩|exact⟨by simp,D2⟩
   ·have z0:decide ((0:Int)<(nt:Int))=false:=by simp;omega
    go_enter func33,ntmps33;go_wp2_with (go_at_call_of 8 (Value.int .i64 2);refine(I0.out _).mono ?_;rintro e w'⟨rfl,rfl⟩);go_loopw[4] (λi wr=>i=.int .i64 0/\wr=(w.alloc (.cells #[.string nm,.int .i64 2,.int .i64 ad,.int .u8 (pl:Int),.slice Ab 0 cb,.slice Ar nr cr,.slice At nt ct] 56))) (λi _=>0)
    case atStart=>exact⟨rfl,rfl⟩
    case round =>
     obtain⟨rfl,rfl⟩:=hrel;go_wp2_with fail;refine(RT.out _ D0).mono ?_;rintro e w2⟨rfl,hb2⟩;have D2:=f7 hb2 D0;go_wp2_with fail;go_ret;first|exact⟨rfl,D2⟩|exact⟨by simp,D2⟩
 ·have p1:decide ((0:Int)<(pl:Int))=true:=by rw[<- p0];simp
  go_enter func33,ntmps33;go_wp2_with (go_at_call_of 8 (Value.int .i64 2);refine(I0.out _).mono ?_;rintro e w'⟨rfl,rfl⟩);go_ret;first|exact⟨rfl,D0⟩|exact⟨by simp,D0⟩
theorem rdev_3(nm:ByteArray)(ad:Int)(pl:Nat)(Ab Ar At:Option Addr)(nb cb nr cr nt ct:Nat)(c:Int)(w:World)
  (RT:Hid (∀W,Below w.heap.size w W->Calls prog 71 #[.slice At nt ct] W λe w'=>e=.returned (.int .i64 c)/\Below W.heap.size W w')) :
  Calls prog 33 #[.agg #[.string nm,.int .i64 3,.int .i64 ad,.int .u8 (pl:Int),.slice Ab nb cb,.slice Ar nr cr,.slice At nt ct]] w λe w'=>e=.returned (.int .i64 (if(!(ad == 0))||(decide (0<pl) != false)then 1 else if 3<nb then 2 else if 0<nb then 1 else if decide (0<nt)then 1 else if 8<nr then 2 else c))/\Below w.heap.size w w':=by
 have D0:=Below.alN (Below.refl w.heap.size w) (.cells #[.string nm,.int .i64 3,.int .i64 ad,.int .u8 (pl:Int),.slice Ab nb cb,.slice Ar nr cr,.slice At nt ct] 56);have I0:Hid (∀w,Calls prog 8 #[.int .i64 3,.int .i64 1,.int .i64 5] w λe w'=>e=.returned (.bool true)/\w'=w):=λw=>inN 3 1 5 w;have V0:=aL w (.string nm) (.int .i64 3) (.int .i64 ad) (.int .u8 (pl:Int)) (.slice Ab nb cb) (.slice Ar nr cr) (.slice At nt ct) 56;obtain⟨_,q0,q1,q2,q3,q4,q5,q6⟩:=id V0;cases a0:(ad == 0)
 ·have a1:(ad != 0)=true:=by simp[bne,a0]
  go_enter func33,ntmps33;go_wp2_with (go_at_call_of 8 (Value.int .i64 3);refine(I0.out _).mono ?_;rintro e w'⟨rfl,rfl⟩);go_ret;first|exact⟨rfl,D0⟩|exact⟨by simp,D0⟩
 have a1:(ad != 0)=false:=by simp[bne,a0]
 cases p0:decide (0<pl)
 ·have p1:decide ((0:Int)<(pl:Int))=false:=by rw[<- p0];simp
  by_cases n3:3<nb
  ·have u3:decide ((3:Int)<(nb:Int))=true:=by simp;omega
   go_enter func33,ntmps33;go_wp2_with (go_at_call_of 8 (Value.int .i64 3);refine(I0.out _).mono ?_;rintro e w'⟨rfl,rfl⟩);go_ret;first|exact⟨rfl,D0⟩|exact⟨by simp,D0⟩
  have u3:decide ((3:Int)<(nb:Int))=false:=by simp;omega
  by_cases n0:0<nb
  ·have u0:((nb:Int) == 0)=false:=by simp;omega
   go_enter func33,ntmps33;go_wp2_with (go_at_call_of 8 (Value.int .i64 3);refine(I0.out _).mono ?_;rintro e w'⟨rfl,rfl⟩);go_ret;first|exact⟨rfl,D0⟩|exact⟨by simp,D0⟩
  obtain rfl:nb=0:=by omega
  clear n3 u3 n0;by_cases r0:0<nr
  ·have v0:decide ((0:Int)<(nr:Int))=true:=by simp;omega
   by_cases t0:0<nt
   ·have z0:decide ((0:Int)<(nt:Int))=true:=by simp;omega
    go_enter func33,ntmps33;go_wp2_with (go_at_call_of 8 (Value.int .i64 3);refine(I0.out _).mono ?_;rintro e w'⟨rfl,rfl⟩);go_loopw[4] (λi wr=>i=.int .i64 0/\wr=(w.alloc (.cells #[.string nm,.int .i64 3,.int .i64 ad,.int .u8 (pl:Int),.slice Ab 0 cb,.slice Ar nr cr,.slice At nt ct] 56))) (λi _=>0)
    case atStart=>exact⟨rfl,rfl⟩
    case round =>
     obtain⟨rfl,rfl⟩:=hrel;go_wp2_with fail;go_ret;first|exact⟨rfl,D0⟩|exact⟨by simp,D0⟩
   have z0:decide ((0:Int)<(nt:Int))=false:=by simp;omega
   by_cases r8:8<nr
   ·have v8:decide ((8:Int)<(nr:Int))=true:=by simp;omega
    go_enter func33,ntmps33;go_wp2_with (go_at_call_of 8 (Value.int .i64 3);refine(I0.out _).mono ?_;rintro e w'⟨rfl,rfl⟩);go_loopw[4] (λi wr=>i=.int .i64 0/\wr=(w.alloc (.cells #[.string nm,.int .i64 3,.int .i64 ad,.int .u8 (pl:Int),.slice Ab 0 cb,.slice Ar nr cr,.slice At nt ct] 56))) (λi _=>0)
    case atStart=>exact⟨rfl,rfl⟩
    case round =>
     obtain⟨rfl,rfl⟩:=hrel;go_wp2_with fail;go_ret;first|exact⟨rfl,D0⟩|exact⟨by simp,D0⟩
   have v8:decide ((8:Int)<(nr:Int))=false:=by simp;omega
   go_enter func33,ntmps33;go_wp2_with (go_at_call_of 8 (Value.int .i64 3);refine(I0.out _).mono ?_;rintro e w'⟨rfl,rfl⟩);go_loopw[4] (λi wr=>i=.int .i64 0/\wr=(w.alloc (.cells #[.string nm,.int .i64 3,.int .i64 ad,.int .u8 (pl:Int),.slice Ab 0 cb,.slice Ar nr cr,.slice At nt ct] 56))) (λi _=>0)
   case atStart=>exact⟨rfl,rfl⟩
   case round =>
    obtain⟨rfl,rfl⟩:=hrel;go_wp2_with fail;refine(RT.out _ D0).mono ?_;rintro e w2⟨rfl,hb2⟩;have D2:=f7 hb2 D0;go_wp2_with fail;go_ret;first|exact⟨rfl,D2⟩|exact⟨by simp,D2⟩
  ·have v0:decide ((0:Int)<(nr:Int))=false:=by simp;omega
   by_cases t0:0<nt
   ·have z0:decide ((0:Int)<(nt:Int))=true:=by simp;omega
    go_enter func33,ntmps33;go_wp2_with (go_at_call_of 8 (Value.int .i64 3);refine(I0.out _).mono ?_;rintro e w'⟨rfl,rfl⟩);go_loopw[4] (λi wr=>i=.int .i64 0/\wr=(w.alloc (.cells #[.string nm,.int .i64 3,.int .i64 ad,.int .u8 (pl:Int),.slice Ab 0 cb,.slice Ar nr cr,.slice At nt ct] 56))) (λi _=>0)
    case atStart=>exact⟨rfl,rfl⟩
    case round =>
     obtain⟨rfl,rfl⟩:=hrel;go_wp2_with fail;go_ret;first|exact⟨rfl,D0⟩|exact⟨by simp,D0⟩
   have z0:decide ((0:Int)<(nt:Int))=false:=by simp;omega
   have r8:¬ 8<nr:=by omega
   have v8:decide ((8:Int)<(nr:Int))=false:=by simp;omega
   go_enter func33,ntmps33;go_wp2_with (go_at_call_of 8 (Value.int .i64 3);refine(I0.out _).mono ?_;rintro e w'⟨rfl,rfl⟩);go_loopw[4] (λi wr=>i=.int .i64 0/\wr=(w.alloc (.cells #[.string nm,.int .i64 3,.int .i64 ad,.int .u8 (pl:Int),.slice Ab 0 cb,.slice Ar nr cr,.slice At nt ct] 56))) (λi _=>0)
   case atStart=>exact⟨rfl,rfl⟩
   case round =>
    obtain⟨rfl,rfl⟩:=hrel;go_wp2_with fail;refine(RT.out _ D0).mono ?_;rintro e w2⟨rfl,hb2⟩;have D2:=f7 hb2 D0;go_wp2_with fail;go_ret;first|exact⟨rfl,D2⟩|exact⟨by simp,D2⟩
 ·have p1:decide ((0:Int)<(pl:Int))=true:=by rw[<- p0];simp
  go_enter func33,ntmps33;go_wp2_with (go_at_call_of 8 (Value.int .i64 3);refine(I0.out _).mono ?_;rintro e w'⟨rfl,rfl⟩);go_ret;first|exact⟨rfl,D0⟩|exact⟨by simp,D0⟩
theorem rdev_4(nm:ByteArray)(ad:Int)(pl:Nat)(Ab Ar At:Option Addr)(nb cb nr cr nt ct:Nat)(c:Int)(w:World)
  (RT:Hid (∀W,Below w.heap.size w W->Calls prog 71 #[.slice At nt ct] W λe w'=>e=.returned (.int .i64 c)/\Below W.heap.size W w')) :
  Calls prog 33 #[.agg #[.string nm,.int .i64 4,.int .i64 ad,.int .u8 (pl:Int),.slice Ab nb cb,.slice Ar nr cr,.slice At nt ct]] w λe w'=>e=.returned (.int .i64 (if(!(decide (0<=ad)&&decide (ad<=15)))||(decide (0<pl) != true)then 1 else if 3<nb then 2 else if 0<nb then 1 else if(decide (0<nr))||(decide (0<nt))then 1 else if 8<nr then 2 else c))/\Below w.heap.size w w':=by
 have D0:=Below.alN (Below.refl w.heap.size w) (.cells #[.string nm,.int .i64 4,.int .i64 ad,.int .u8 (pl:Int),.slice Ab nb cb,.slice Ar nr cr,.slice At nt ct] 56);have I0:Hid (∀w,Calls prog 8 #[.int .i64 4,.int .i64 1,.int .i64 5] w λe w'=>e=.returned (.bool true)/\w'=w):=λw=>inN 4 1 5 w;have V0:=aL w (.string nm) (.int .i64 4) (.int .i64 ad) (.int .u8 (pl:Int)) (.slice Ab nb cb) (.slice Ar nr cr) (.slice At nt ct) 56;obtain⟨_,q0,q1,q2,q3,q4,q5,q6⟩:=id V0;have I1:Hid (∀w,Calls prog 8 #[.int .i64 ad,.int .i64 0,.int .i64 15] w λe w'=>e=.returned (.bool (decide (0<=ad)&&decide (ad<=15)))/\w'=w):=λw=>inN ad 0 15 w;generalize (decide (0<=ad)&&decide (ad<=15))=x0 at *;cases x0
 ·go_enter func33,ntmps33;go_wp2_with (first|(go_at_call_of 8 (Value.int .i64 4);refine(I0.out _).mono ?_;rintro e w'⟨rfl,rfl⟩)|(go_at_call_of 8 (Value.int .i64 ad);refine(I1.out _).mono ?_;rintro e w'⟨rfl,rfl⟩));go_ret;first|exact⟨rfl,D0⟩|exact⟨by simp,D0⟩
 cases p0:decide (0<pl)
 ·have p1:decide ((0:Int)<(pl:Int))=false:=by rw[<- p0];simp
  go_enter func33,ntmps33;go_wp2_with (first|(go_at_call_of 8 (Value.int .i64 4);refine(I0.out _).mono ?_;rintro e w'⟨rfl,rfl⟩)|(go_at_call_of 8 (Value.int .i64 ad);refine(I1.out _).mono ?_;rintro e w'⟨rfl,rfl⟩));go_ret;first|exact⟨rfl,D0⟩|exact⟨by simp,D0⟩
 ·have p1:decide ((0:Int)<(pl:Int))=true:=by rw[<- p0];simp
  by_cases n3:3<nb
  ·have u3:decide ((3:Int)<(nb:Int))=true:=by simp;omega
   go_enter func33,ntmps33;go_wp2_with (first|(go_at_call_of 8 (Value.int .i64 4);refine(I0.out _).mono ?_;rintro e w'⟨rfl,rfl⟩)|(go_at_call_of 8 (Value.int .i64 ad);refine(I1.out _).mono ?_;rintro e w'⟨rfl,rfl⟩));go_ret;first|exact⟨rfl,D0⟩|exact⟨by simp,D0⟩
  have u3:decide ((3:Int)<(nb:Int))=false:=by simp;omega
  by_cases n0:0<nb
  ·have u0:((nb:Int) == 0)=false:=by simp;omega
   go_enter func33,ntmps33;go_wp2_with (first|(go_at_call_of 8 (Value.int .i64 4);refine(I0.out _).mono ?_;rintro e w'⟨rfl,rfl⟩)|(go_at_call_of 8 (Value.int .i64 ad);refine(I1.out _).mono ?_;rintro e w'⟨rfl,rfl⟩));go_ret;first|exact⟨rfl,D0⟩|exact⟨by simp,D0⟩
  obtain rfl:nb=0:=by omega
  clear n3 u3 n0;by_cases r0:0<nr
  ·have v0:decide ((0:Int)<(nr:Int))=true:=by simp;omega
   go_enter func33,ntmps33;go_wp2_with (first|(go_at_call_of 8 (Value.int .i64 4);refine(I0.out _).mono ?_;rintro e w'⟨rfl,rfl⟩)|(go_at_call_of 8 (Value.int .i64 ad);refine(I1.out _).mono ?_;rintro e w'⟨rfl,rfl⟩));go_loopw[4] (λi wr=>i=.int .i64 0/\wr=(w.alloc (.cells #[.string nm,.int .i64 4,.int .i64 ad,.int .u8 (pl:Int),.slice Ab 0 cb,.slice Ar nr cr,.slice At nt ct] 56))) (λi _=>0)
   case atStart=>exact⟨rfl,rfl⟩
   case round =>
    obtain⟨rfl,rfl⟩:=hrel;go_wp2_with fail;go_ret;first|exact⟨rfl,D0⟩|exact⟨by simp,D0⟩
  have v0:decide ((0:Int)<(nr:Int))=false:=by simp;omega
  by_cases t0:0<nt
  ·have z0:decide ((0:Int)<(nt:Int))=true:=by simp;omega
   go_enter func33,ntmps33;go_wp2_with (first|(go_at_call_of 8 (Value.int .i64 4);refine(I0.out _).mono ?_;rintro e w'⟨rfl,rfl⟩)|(go_at_call_of 8 (Value.int .i64 ad);refine(I1.out _).mono ?_;rintro e w'⟨rfl,rfl⟩));go_loopw[4] (λi wr=>i=.int .i64 0/\wr=(w.alloc (.cells #[.string nm,.int .i64 4,.int .i64 ad,.int .u8 (pl:Int),.slice Ab 0 cb,.slice Ar nr cr,.slice At nt ct] 56))) (λi _=>0)
   case atStart=>exact⟨rfl,rfl⟩
   case round =>
    obtain⟨rfl,rfl⟩:=hrel;go_wp2_with fail;go_ret;first|exact⟨rfl,D0⟩|exact⟨by simp,D0⟩
  have z0:decide ((0:Int)<(nt:Int))=false:=by simp;omega
  have r8:¬ 8<nr:=by omega
  have v8:decide ((8:Int)<(nr:Int))=false:=by simp;omega
  go_enter func33,ntmps33;go_wp2_with (first|(go_at_call_of 8 (Value.int .i64 4);refine(I0.out _).mono ?_;rintro e w'⟨rfl,rfl⟩)|(go_at_call_of 8 (Value.int .i64 ad);refine(I1.out _).mono ?_;rintro e w'⟨rfl,rfl⟩));go_loopw[4] (λi wr=>i=.int .i64 0/\wr=(w.alloc (.cells #[.string nm,.int .i64 4,.int .i64 ad,.int .u8 (pl:Int),.slice Ab 0 cb,.slice Ar nr cr,.slice At nt ct] 56))) (λi _=>0)
  case atStart=>exact⟨rfl,rfl⟩
  case round =>
   obtain⟨rfl,rfl⟩:=hrel;go_wp2_with fail;refine(RT.out _ D0).mono ?_;rintro e w2⟨rfl,hb2⟩;have D2:=f7 hb2 D0;go_wp2_with fail;go_ret;first|exact⟨rfl,D2⟩|exact⟨by simp,D2⟩
end Go.Proofs.YtppbfikimalojaaGreat
