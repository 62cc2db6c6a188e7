/-
  XAR.
-/
import Derived.Test.YtppbfikimalojaaGreatXAP
import Derived.Test.YtppbfikimalojaaGreatXAK
import Derived.Test.YtppbfikimalojaaGreatXAL
import Derived.Test.YtppbfikimalojaaGreatXLy
set_option maxHeartbeats 8000000
set_option maxRecDepth 100000
namespace Go.Proofs.YtppbfikimalojaaGreat
open Tryz
open Go.RowKit Go.Maps
section
variable {d:Dv}{i:Int}{ls:List Lk}{T:Tab}{k:Int}{Q:d7}{q:Int}{c:Nat}
theorem nZ(h:wasB T k (i,q) c=false):un Q (one5 d i ls T k q c)=Q:=N7 λ_ _ ⟨h1,_⟩=>by rw[h]at h1;cases h1
theorem oc(h1:wasB T k (i,0) c=true)(h2:¬(pkN c).d=d.addr):un Q (one5 d i ls T k 0 c)=i4 Q (peerF ls i 1) (codeN (pkN c)):=by
 rw[U8];refine dJ λt c'=>⟨λ⟨_,b⟩=>?_,λ⟨a,b⟩=>⟨h1,Or.inl ⟨Or.inr h2,a,b⟩⟩⟩;rcases b with⟨_,a,b⟩|⟨_,b,_⟩|⟨b,_⟩
 ·exact⟨a,b⟩
 ·exact absurd b h2
 ·omega
def au(d:Dv)(i:Int)(ls:List Lk)(p:Pk)(x:Nat):d7:=λt c'=>∃(j:Nat) (b:Int),j<x/\d.backs[j]?=some b/\peerF ls i 1=some t/\c'=codeN ⟨p.s,b,p.sp,p.dp⟩
theorem oe{p:Pk}:un Q (au d i ls p 0)=Q:=N7 λ_ _ ⟨j,b,h,_⟩=>by omega
theorem og{p:Pk}{x:Nat}{b:Int}(h:d.backs[x]?=some b):i4 (un Q (au d i ls p x)) (peerF ls i 1) (codeN ⟨p.s,b,p.sp,p.dp⟩)=un Q (au d i ls p (x+1)):=by
 funext t c'
 refine propext ⟨?_,?_⟩
 ·rintro((h1|⟨j,b',h1,h2,h3,h4⟩)|⟨h1,h2⟩)
  ·exact Or.inl h1
  ·exact Or.inr ⟨j,b',by omega,h2,h3,h4⟩
  ·exact Or.inr ⟨x,b,by omega,h,h1,h2⟩
 ·rintro(h1|⟨j,b',h1,h2,h3,h4⟩)
  ·exact Or.inl (Or.inl h1)
  ·by_cases e:j=x
   ·subst e;rw[h]at h2;cases h2;exact Or.inr ⟨h3,h4⟩
   ·exact Or.inl (Or.inr ⟨j,b',by omega,h2,h3,h4⟩)
theorem oh(h1:wasB T k (i,0) c=true)(h2:(pkN c).d=d.addr):un Q (au d i ls (pkN c) d.backs.length)=un Q (one5 d i ls T k 0 c):=by
 have:au d i ls (pkN c) d.backs.length=one5 d i ls T k 0 c:=by
  funext t c'
  refine propext ⟨λ⟨j,b,_,a2,a3,a4⟩=>⟨h1,Or.inr (Or.inl ⟨rfl,h2,b,List.mem_of_getElem? a2,a3,a4⟩)⟩,λ⟨_,a⟩=>?_⟩;rcases a with⟨a|a,_⟩|⟨_,_,b,a2,a3,a4⟩|⟨a,_⟩
  ·omega
  ·exact absurd h2 a
  ·obtain⟨j,hj,e⟩:=List.mem_iff_getElem.1 a2;exact⟨j,b,hj,by rw[List.getElem?_eq_getElem hj,e],a3,a4⟩
  ·omega
 rw[this]
def bJ(d:Dv)(i:Int)(ls:List Lk)(T:Tab)(k:Int)(p:Pk):Bool:=(peerF ls i 1).isSome&&(d.backs.any (λy=>y == p.s)&&wasB T k (i,0) (codeN ⟨p.d,d.addr,p.dp,p.sp⟩))
theorem mem_any{l:List Int}{x:Int}:x∈l ↔ l.any (λy=>y == x)=true:=by simp
theorem jd(h1:wasB T k (i,1) c=true):un Q (one5 d i ls T k 1 c)=if bJ d i ls T k (pkN c)=true then i4 (i4 Q (peerF ls i 0) (codeN (pkN c))) (peerF ls i 0) (codeN ⟨d.addr,(pkN c).d,(pkN c).sp,(pkN c).dp⟩)else i4 Q (peerF ls i 0) (codeN (pkN c)):=by
 rw[U8];have e:(1:Int)-1=0:=rfl;by_cases ha:bJ d i ls T k (pkN c)=true
 ·rw[if_pos ha];have ha':=ha;unfold bJ at ha';simp only[Bool.and_eq_true]at ha';obtain⟨a1,a2,a3⟩:=ha'
  funext t c'
  refine propext ⟨?_,?_⟩
  ·rintro(h|⟨_,⟨_,h2,h3⟩|⟨h2,_⟩|⟨_,_,_,_,h2,h3⟩⟩)
   ·exact Or.inl (Or.inl h)
   ·rw[e]at h2;exact Or.inl (Or.inr ⟨h2,h3⟩)
   ·omega
   ·exact Or.inr ⟨h2,h3⟩
  ·rintro((h|⟨h2,h3⟩)|⟨h2,h3⟩)
   ·exact Or.inl h
   ·exact Or.inr ⟨h1,Or.inl ⟨Or.inl rfl,h2,h3⟩⟩
   ·exact Or.inr ⟨h1,Or.inr (Or.inr ⟨rfl,a1,mem_any.2 a2,a3,h2,h3⟩)⟩
 ·rw[if_neg ha];refine dJ λt c'=>⟨?_,λ⟨h2,h3⟩=>⟨h1,Or.inl ⟨Or.inl rfl,h2,h3⟩⟩⟩;rintro⟨_,⟨_,h2,h3⟩|⟨h2,_⟩|⟨_,a1,a2,a3,h2,h3⟩⟩
  ·rw[e]at h2;exact⟨h2,h3⟩
  ·omega
  ·refine absurd ?_ ha;unfold bJ;simp only[Bool.and_eq_true];exact⟨a1,mem_any.1 a2,a3⟩
end
theorem ol(V:f8->d7->World->Prop)(d:Dv)(i:Int)(ls:List Lk)(T:Tab)(k:Int)(S nb sb kb mb:Nat)(vn vr vt:Value)(A:Option Addr)(cap:Nat)(BX:f8)(Q:d7)(w:World)(c:Nat)(op:Bool)(hc:c<16384)
  (H:Hid (DV V d i ls T k S nb sb kb mb vn vr vt)) (V0:V BX Q w) (hbs:∀b∈d.backs,0<=b/\b<16) (hl3:d.backs.length<=3)
  (HB:Hid (∀bx Q W,V bx Q W->SlAt W.heap.size W 1 IsI (.slice A d.backs.length cap) d.backs)) (hw:wasB T k (i,0) c=true) :
  Calls prog 78 #[.pointer (some ⟨S,0,none⟩),.agg #[.string d.name,.int .i64 5,.int .i64 d.addr,.int .u8 (d.pool:Int),.slice A d.backs.length cap,vr,vt],.int .i64 i,.int .i64 0,.int .i64 k,pkV (pkN c),.bool op,.func (.func 36) #[] #[.pointer (some ⟨nb,0,none⟩),.pointer (some ⟨sb,0,none⟩),.pointer (some ⟨kb,0,none⟩),.pointer (some ⟨mb,0,none⟩)]] w λe w'=>e=.returned (.tuple #[])/\V BX (un Q (one5 d i ls T k 0 c)) w':=by
 have hpc:=pkN_ok hc;obtain⟨hb1,hb2,hb3,hb4⟩:=p9 hpc;have PU:Hid (∀{bx:f8} {Q:d7} {W:World},V bx Q W->Calls prog 36 #[.int .i64 i,.int .i64 1,pkV (pkN c),.pointer (some ⟨nb,0,none⟩),.pointer (some ⟨sb,0,none⟩),.pointer (some ⟨kb,0,none⟩),.pointer (some ⟨mb,0,none⟩)] W λe w'=>e=.returned (.tuple #[])/\V bx (i4 Q (peerF ls i 1) (codeN (pkN c))) w'):=λh=>H.out.put h 1 _ hpc;have PB:Hid (∀{bx:f8} {Q:d7} {W:World} {b:Int},0<=b/\b<16->V bx Q W->Calls prog 36 #[.int .i64 i,.int .i64 1,.agg #[.int .i64 (pkN c).s,.int .i64 b,.int .i64 (pkN c).sp,.int .i64 (pkN c).dp],.pointer (some ⟨nb,0,none⟩),.pointer (some ⟨sb,0,none⟩),.pointer (some ⟨kb,0,none⟩),.pointer (some ⟨mb,0,none⟩)] W λe w'=>e=.returned (.tuple #[])/\V bx (i4 Q (peerF ls i 1) (codeN ⟨(pkN c).s,b,(pkN c).sp,(pkN c).dp⟩)) w'):=λhb h=>H.out.put h 1 ⟨(pkN c).s,_,(pkN c).sp,(pkN c).dp⟩ (n9 hb1 hb hb3 hb4);have V1:=H.out.new V0 #[.string d.name,.int .i64 5,.int .i64 d.addr,.int .u8 (d.pool:Int),.slice A d.backs.length cap,vr,vt] 56;have V2:=H.out.new V1 #[.int .i64 (pkN c).s,.int .i64 (pkN c).d,.int .i64 (pkN c).sp,.int .i64 (pkN c).dp] 29;rw[World.size_alloc]at V2;obtain⟨BY,hBY⟩:∃BY:f8,BY=(w.heap.size+1,#[.int .i64 (pkN c).s,.int .i64 (pkN c).d,.int .i64 (pkN c).sp,.int .i64 (pkN c).dp],29)::(w.heap.size,#[.string d.name,.int .i64 5,.int .i64 d.addr,.int .u8 (d.pool:Int),.slice A d.backs.length cap,vr,vt],56)::BX:=⟨_,rfl⟩;rw[<- hBY]at V2;have BD:Hid (∀{Q:d7} {W:World},V BY Q W->W.cell? ⟨w.heap.size,2,none⟩=some (.int .i64 d.addr)/\W.cell? ⟨w.heap.size,4,none⟩=some (.slice A d.backs.length cap)/\W.cell? ⟨w.heap.size+1,0,none⟩=some (.int .i64 (pkN c).s)/\W.cell? ⟨w.heap.size+1,1,none⟩=some (.int .i64 (pkN c).d)/\W.cell? ⟨w.heap.size+1,2,none⟩=some (.int .i64 (pkN c).sp)/\W.cell? ⟨w.heap.size+1,3,none⟩=some (.int .i64 (pkN c).dp)):=λ{Q W} hv=>by
  rw[hBY]at hv;have B:=H.out.get hv (_,_,_) (List.mem_cons_of_mem _ List.mem_cons_self);obtain⟨a0,a1,a2,a3,_⟩:=(H.out.get hv (_,_,_) List.mem_cons_self).four;exact⟨B.at 2,B.at 4,a0,a1,a2,a3⟩
 have TO:Hid (∀{Q:d7} {W:World},V BY Q W->V BX Q W):=λ{Q W} hv=>by
  rw[hBY]at hv;exact H.out.less hv (λy hy=>List.mem_cons_of_mem _ (List.mem_cons_of_mem _ hy))
 have NC:Hid (∀{Q:d7} {W:World} (y:Nat × Array Value × TypeId),V (y::BY) Q W->V BY Q W):=λy hv=>H.out.less hv (λy hy=>List.mem_cons_of_mem _ hy);have BK:Hid (∀{Q:d7} {W:World} {j:Nat} {b:Int},d.backs[j]?=some b->V BY Q W->∃g o,A=some ⟨g,o,none⟩/\W.cell? ⟨g,o+j,none⟩=some (.int .i64 b)):=λ{Q W j b} hj hv=>by
  obtain⟨A',d8,e,h0,h1,h2,h3⟩:=HB.out _ _ _ hv;cases e;obtain⟨g,o,ea,_,hr⟩:=h3 (λe=>by rw[e]at hj;simp at hj);obtain⟨cs,_,hR,hcell⟩:=hr j b hj;refine⟨g,o,ea,?_⟩;have:=hcell 0 _ (by rw[show cs=[.int .i64 b]from hR];rfl);simpa using this
 clear V0 V1 HB;by_cases hd:(pkN c).d=d.addr
 ·have f1:((pkN c).d == d.addr)=true:=by simpa using hd
  have f2:((pkN c).d != d.addr)=false:=by simp[hd]
  have EN:Hid (un Q (au d i ls (pkN c) d.backs.length)=un Q (one5 d i ls T k 0 c)):=oh hw hd;have BS:Hid (∀(x:Nat) (b:Int),d.backs[x]?=some b->i4 (un Q (au d i ls (pkN c) x)) (peerF ls i 1) (codeN ⟨(pkN c).s,b,(pkN c).sp,(pkN c).dp⟩)=un Q (au d i ls (pkN c) (x+1))):=λx b h=>og h;have V3:V BY (un Q (au d i ls (pkN c) 0)) ((w.alloc (.cells #[.string d.name,.int .i64 5,.int .i64 d.addr,.int .u8 (d.pool:Int),.slice A d.backs.length cap,vr,vt] 56)).alloc (.cells #[.int .i64 (pkN c).s,.int .i64 (pkN c).d,.int .i64 (pkN c).sp,.int .i64 (pkN c).dp] 29)):=by rw[oe];exact V2
  obtain⟨d2,d4,x0,x1,x2,x3⟩:=BD.out V2;clear hd hw V2 PU;have HBL:Hid (∀j,j<d.backs.length->∃b,d.backs[j]?=some b/\0<=b/\b<16):=λj hj=>⟨_,List.getElem?_eq_getElem hj,hbs _ (List.getElem_mem hj)⟩;clear hbs;generalize hbP:au d i ls (pkN c)=bP at *;clear hbP;generalize un Q (one5 d i ls T k 0 c)=R at *;generalize pkN c=pc at *;obtain⟨s,dd,sp,dp⟩:=pc;dsimp only at *;go_enter func78,ntmps78;go_wp2_with fail;go_loopw[16] (λu wr=>∃x:Nat,u=.int .i64 (x:Int)/\x<=d.backs.length/\V BY (un Q (bP x)) wr) (λu _=>d.backs.length-(intOf u).toNat)
  case atStart=>exact⟨0,rfl,by omega,V3⟩
  case round =>
   clear V3 d2 d4 x0 x1 x2 x3;obtain⟨x,rfl,hx,V4⟩:=hrel;obtain⟨d2,d4,x0,x1,x2,x3⟩:=BD.out V4;by_cases hlt:x<d.backs.length
   ·obtain⟨b,hb,hbb⟩:=HBL.out x hlt;have VD:=H.out.new V4 #[.int .i64 s,.int .i64 dd,.int .i64 sp,.int .i64 dp] 29;obtain⟨e2,e4,_⟩:=BD.out (NC.out _ VD);obtain⟨g,o,rfl,cb⟩:=BK.out hb (NC.out _ VD);have S1:=BS.out x b hb;have y1:(x:Int)<(d.backs.length:Int):=by omega
    have y0:(0:Int)<=(x:Int):=by omega
    have VN:=H.out.new V4 #[.int .i64 s,.int .i64 b,.int .i64 sp,.int .i64 dp] 29;go_upto_region 9 with fail;generalize wr.alloc (.cells #[.int .i64 s,.int .i64 b,.int .i64 sp,.int .i64 dp] 29)=wn at *;generalize wr.heap.size=z at *;obtain⟨a0,a1,a2,a3,_⟩:=(H.out.get VN (_,_,_) List.mem_cons_self).four;clear V4 VD d2 d4 e2 e4 x0 x1 x2 x3 cb hb;go_wp2_with fail;refine(PB.out hbb VN).mono ?_;rintro e wm⟨rfl,VM⟩;have VZ:=NC.out _ VM;rw[S1]at VZ;clear VN VM S1 a0 a1 a2 a3;go_wp2_with fail;go_roundw
    case rel=>exact⟨x+1,by go_num,by omega,VZ⟩
    case measure=>simp[intOf];omega
   ·obtain rfl:x=d.backs.length:=by omega
    have VN:=H.out.new V4 #[.int .i64 dd,.int .i64 d.addr,.int .i64 dp,.int .i64 sp] 29;have VZ:=TO.out (NC.out _ VN);rw[EN.out]at VZ;clear VN;go_wp2_with fail
    go_returns
    exact⟨rfl,VZ⟩
 ·have f1:((pkN c).d == d.addr)=false:=by simpa using hd
  have f2:((pkN c).d != d.addr)=true:=by simpa using hd
  have EN:Hid (un Q (one5 d i ls T k 0 c)=i4 Q (peerF ls i 1) (codeN (pkN c))):=oc hw hd;obtain⟨d2,d4,x0,x1,x2,x3⟩:=BD.out V2;clear hd hw PB hbs BK;generalize codeN (pkN c)=cc at *;generalize un Q (one5 d i ls T k 0 c)=R at *;generalize pkN c=pc at *;obtain⟨s,dd,sp,dp⟩:=pc;dsimp only at *;go_enter func78,ntmps78;go_wp2_with fail;refine(PU.out V2).mono ?_;rintro e w3⟨rfl,V3⟩;rw[<- EN.out]at V3;clear V2 d2 d4 x0 x1 x2 x3 PU;obtain⟨d2,d4,x0,x1,x2,x3⟩:=BD.out V3;have VN:=H.out.new V3 #[.int .i64 dd,.int .i64 d.addr,.int .i64 dp,.int .i64 sp] 29;have VZ:=TO.out (NC.out _ VN);clear VN;go_wp2_with fail
  go_returns
  exact⟨rfl,VZ⟩
theorem om(V:f8->d7->World->Prop)(d:Dv)(i:Int)(ls:List Lk)(T:Tab)(k:Int)(S nb sb kb mb:Nat)(vn vr vt:Value)(A:Option Addr)(cap:Nat)(BX:f8)(Q:d7)(w:World)(c:Nat)(op:Bool)(hc:c<16384)(ha:0<=d.addr/\d.addr<16)(hk:d.kind=5)
  (H:Hid (DV V d i ls T k S nb sb kb mb vn vr vt)) (V0:V BX Q w) (hop:(peerF ls i 1).isSome=op)
  (HB:Hid (∀bx Q W,V bx Q W->SlAt W.heap.size W 1 IsI (.slice A d.backs.length cap) d.backs)) (hw:wasB T k (i,1) c=true) :
  Calls prog 78 #[.pointer (some ⟨S,0,none⟩),.agg #[.string d.name,.int .i64 5,.int .i64 d.addr,.int .u8 (d.pool:Int),.slice A d.backs.length cap,vr,vt],.int .i64 i,.int .i64 1,.int .i64 k,pkV (pkN c),.bool op,.func (.func 36) #[] #[.pointer (some ⟨nb,0,none⟩),.pointer (some ⟨sb,0,none⟩),.pointer (some ⟨kb,0,none⟩),.pointer (some ⟨mb,0,none⟩)]] w λe w'=>e=.returned (.tuple #[])/\V BX (un Q (one5 d i ls T k 1 c)) w':=by
 have hpc:=pkN_ok hc;obtain⟨hb1,hb2,hb3,hb4⟩:=p9 hpc;have ho1:i8 ⟨(pkN c).d,d.addr,(pkN c).dp,(pkN c).sp⟩=true:=n9 hb2 ha hb4 hb3;have ho2:i8 ⟨d.addr,(pkN c).d,(pkN c).sp,(pkN c).dp⟩=true:=n9 ha hb2 hb3 hb4;have hcl:=J5 ho1;have PU:Hid (∀{bx:f8} {Q:d7} {W:World},V bx Q W->Calls prog 36 #[.int .i64 i,.int .i64 0,pkV (pkN c),.pointer (some ⟨nb,0,none⟩),.pointer (some ⟨sb,0,none⟩),.pointer (some ⟨kb,0,none⟩),.pointer (some ⟨mb,0,none⟩)] W λe w'=>e=.returned (.tuple #[])/\V bx (i4 Q (peerF ls i 0) (codeN (pkN c))) w'):=λh=>H.out.put h 0 _ hpc;have PA:Hid (∀{bx:f8} {Q:d7} {W:World},V bx Q W->Calls prog 36 #[.int .i64 i,.int .i64 0,.agg #[.int .i64 d.addr,.int .i64 (pkN c).d,.int .i64 (pkN c).sp,.int .i64 (pkN c).dp],.pointer (some ⟨nb,0,none⟩),.pointer (some ⟨sb,0,none⟩),.pointer (some ⟨kb,0,none⟩),.pointer (some ⟨mb,0,none⟩)] W λe w'=>e=.returned (.tuple #[])/\V bx (i4 Q (peerF ls i 0) (codeN ⟨d.addr,(pkN c).d,(pkN c).sp,(pkN c).dp⟩)) w'):=λh=>H.out.put h 0 ⟨d.addr,(pkN c).d,(pkN c).sp,(pkN c).dp⟩ ho2;have RC:Hid (∀W:World,Calls prog 37 #[.agg #[.int .i64 (pkN c).d,.int .i64 d.addr,.int .i64 (pkN c).dp,.int .i64 (pkN c).sp]] W λe w'=>e=.returned (.int .i64 (codeN ⟨(pkN c).d,d.addr,(pkN c).dp,(pkN c).sp⟩:Int))/\Below W.heap.size W w'):=λW=>dI ⟨(pkN c).d,d.addr,(pkN c).dp,(pkN c).sp⟩ W ho1;have W0:Hid (∀{bx:f8} {Q:d7} {W:World},V bx Q W->Calls prog 73 #[.pointer (some ⟨S,0,none⟩),.int .i64 i,.int .i64 0,.int .i64 (codeN ⟨(pkN c).d,d.addr,(pkN c).dp,(pkN c).sp⟩:Int),.int .i64 k] W λe w'=>e=.returned (.bool (wasB T k (i,0) (codeN ⟨(pkN c).d,d.addr,(pkN c).dp,(pkN c).sp⟩)))/\w'=W):=λh=>H.out.was h 0 _ (by omega) (by rw[hk];show(0:Int)<2;omega) hcl;have CT:Hid (∀{bx:f8} {Q:d7} {W:World},V bx Q W->Calls prog 63 #[.slice A d.backs.length cap,.int .i64 (pkN c).s] W λe w'=>e=.returned (.bool (d.backs.any (λy=>y ==(pkN c).s)))/\w'=W):=λ{bx Q W} h=>dG A _ cap d.backs (pkN c).s W.heap.size W (HB.out _ _ _ h);have V1:=H.out.new V0 #[.string d.name,.int .i64 5,.int .i64 d.addr,.int .u8 (d.pool:Int),.slice A d.backs.length cap,vr,vt] 56;have V2:=H.out.new V1 #[.int .i64 (pkN c).s,.int .i64 (pkN c).d,.int .i64 (pkN c).sp,.int .i64 (pkN c).dp] 29;rw[World.size_alloc]at V2;obtain⟨BY,hBY⟩:∃BY:f8,BY=(w.heap.size,#[.string d.name,.int .i64 5,.int .i64 d.addr,.int .u8 (d.pool:Int),.slice A d.backs.length cap,vr,vt],56)::BX:=⟨_,rfl⟩;have HNE:Hid (∀y∈BY,y.1≠w.heap.size+1):=λy hy=>by
  rw[hBY]at hy;rcases List.mem_cons.1 hy with rfl|hy
  ·show w.heap.size≠w.heap.size+1;omega
  ·have:=(H.out.get V0 y hy).lt;omega
 rw[<- hBY]at V2;have BD:Hid (∀{Q:d7} {W:World} {y:Nat × Array Value × TypeId},V (y::BY) Q W->W.cell? ⟨w.heap.size,2,none⟩=some (.int .i64 d.addr)/\W.cell? ⟨w.heap.size,4,none⟩=some (.slice A d.backs.length cap)):=λ{Q W y} hv=>by
  rw[hBY]at hv;have B:=H.out.get hv (_,_,_) (List.mem_cons_of_mem _ List.mem_cons_self);exact⟨B.at 2,B.at 4⟩
 have GP:Hid (∀{x:Nat} {s0 s1 s2 s3:Int} {bx:f8} {Q:d7} {W:World},V ((x,#[.int .i64 s0,.int .i64 s1,.int .i64 s2,.int .i64 s3],29)::bx) Q W->W.cell? ⟨x,0,none⟩=some (.int .i64 s0)/\W.cell? ⟨x,1,none⟩=some (.int .i64 s1)/\W.cell? ⟨x,2,none⟩=some (.int .i64 s2)/\W.cell? ⟨x,3,none⟩=some (.int .i64 s3)/\W.frozen? ⟨x,0,none⟩=false):=λ{x s0 s1 s2 s3 bx Q W} hv=>by
  obtain⟨a0,a1,a2,a3,a4,_⟩:=(H.out.get hv (_,_,_) List.mem_cons_self).four;exact⟨a0,a1,a2,a3,a4⟩
 have TO:Hid (∀{Q:d7} {W:World} {y:Nat × Array Value × TypeId},V (y::BY) Q W->V BX Q W):=λ{Q W y} hv=>by
  rw[hBY]at hv;exact H.out.less hv (λy hy=>List.mem_cons_of_mem _ (List.mem_cons_of_mem _ hy))
 have EN:Hid (bJ d i ls T k (pkN c)=true->un Q (one5 d i ls T k 1 c)=i4 (i4 Q (peerF ls i 0) (codeN (pkN c))) (peerF ls i 0) (codeN ⟨d.addr,(pkN c).d,(pkN c).sp,(pkN c).dp⟩)):=λh=>by rw[jd hw,if_pos h]
 have EO:Hid (bJ d i ls T k (pkN c)=false->un Q (one5 d i ls T k 1 c)=i4 Q (peerF ls i 0) (codeN (pkN c))):=λh=>by rw[jd hw,if_neg (by rw[h];decide)]
 unfold bJ at EN EO;rw[hop]at EN EO;clear V0 V1 HB hBY hw hop hpc ho1 ho2 hcl hb1 hb2 hb3 hb4;generalize codeN ⟨(pkN c).d,d.addr,(pkN c).dp,(pkN c).sp⟩=cw at *;generalize codeN ⟨d.addr,(pkN c).d,(pkN c).sp,(pkN c).dp⟩=ca at *;generalize codeN (pkN c)=cc at *;generalize d.backs.any (λy=>y ==(pkN c).s)=xb at *;generalize wasB T k (i,0) cw=xw at *;generalize un Q (one5 d i ls T k 1 c)=R at *;have E1:Hid (op=false->R=i4 Q (peerF ls i 0) cc):=λh=>EO.out (by rw[h];rfl);have E2:Hid (op=true->xb=false->R=i4 Q (peerF ls i 0) cc):=λh h'=>EO.out (by rw[h,h'];rfl);have E3:Hid (op=true->xb=true->xw=false->R=i4 Q (peerF ls i 0) cc):=λh h' h''=>EO.out (by rw[h,h',h''];rfl);have E4:Hid (op=true->xb=true->xw=true->R=i4 (i4 Q (peerF ls i 0) cc) (peerF ls i 0) ca):=λh h' h''=>EN.out (by rw[h,h',h''];rfl);clear EN EO;generalize pkN c=pc at *;obtain⟨s,dd,sp,dp⟩:=pc;dsimp only at *;obtain⟨d2,d4⟩:=BD.out V2;obtain⟨x0,x1,x2,x3,x4⟩:=GP.out V2;go_enter func78,ntmps78;go_wp2_with fail;refine(PU.out V2).mono ?_;rintro e w3⟨rfl,V3⟩;clear V2 d2 d4 x0 x1 x2 x3 x4 PU;obtain⟨d2,d4⟩:=BD.out V3;obtain⟨x0,x1,x2,x3,x4⟩:=GP.out V3;have V5:=H.out.new V3 #[.int .i64 dd,.int .i64 d.addr,.int .i64 dp,.int .i64 sp] 29;go_upto_region 11 with fail;generalize w3.alloc (.cells #[.int .i64 dd,.int .i64 d.addr,.int .i64 dp,.int .i64 sp] 29)=w5 at *;generalize w3.heap.size=z at *;clear V3 d2 d4 x0 x1 x2 x3 x4;have VP:=H.out.less V5 (bx':=(w.heap.size+1,#[.int .i64 s,.int .i64 dd,.int .i64 sp,.int .i64 dp],29)::BY) (λy hy=>List.mem_cons_of_mem _ hy);obtain⟨d2,d4⟩:=BD.out VP;obtain⟨x0,x1,x2,x3,x4⟩:=GP.out VP;obtain⟨z0,z1,z2,z3,z4⟩:=GP.out V5;cases op with
 | false =>
   have VZ:V BX R w5:=by rw[E1.out rfl];exact TO.out VP
   clear VP V5 E1 E2 E3 E4;go_wp2_with fail
   go_returns
   exact⟨rfl,VZ⟩
 | true =>
 cases xb with
 | false =>
   have VZ:V BX R w5:=by rw[E2.out rfl rfl];exact TO.out VP
   clear E1 E2 E3 E4;go_wp2_with fail;refine(CT.out V5).mono ?_;rintro e w6⟨rfl,rfl⟩;clear VP V5;go_wp2_with fail
   go_returns
   exact⟨rfl,VZ⟩
 | true =>
 cases xw with
 | false =>
   have E3':Hid (R=i4 Q (peerF ls i 0) cc):=E3.out rfl rfl rfl;clear E1 E2 E3 E4;go_wp2_with fail;refine(CT.out V5).mono ?_;rintro e w6⟨rfl,rfl⟩;go_wp2_with fail;refine(RC.out _).mono ?_;rintro e w7⟨rfl,hb7⟩;have V7:=H.out.below VP hb7;clear hb7 VP V5;go_wp2_with fail;refine(W0.out V7).mono ?_;rintro e w8⟨rfl,rfl⟩;have VZ:V BX R w8:=by rw[E3'.out];exact TO.out V7
   clear V7;go_wp2_with fail
   go_returns
   exact⟨rfl,VZ⟩
 | true =>
   have E4':Hid (R=i4 (i4 Q (peerF ls i 0) cc) (peerF ls i 0) ca):=E4.out rfl rfl rfl;clear E1 E2 E3 E4;go_wp2_with fail;refine(CT.out V5).mono ?_;rintro e w6⟨rfl,rfl⟩;go_wp2_with fail;refine(RC.out _).mono ?_;rintro e w7⟨rfl,hb7⟩;have V7:=H.out.below VP hb7;clear hb7 VP V5 d2 d4 x0 x1 x2 x3 x4 z0 z1 z2 z3 z4;go_wp2_with fail;refine(W0.out V7).mono ?_;rintro e w8⟨rfl,rfl⟩;obtain⟨d2,d4⟩:=BD.out V7;obtain⟨x0,x1,x2,x3,x4⟩:=GP.out V7;have V8:=H.out.set V7 HNE.out 0 (.int .i64 d.addr);rw[show(#[.int .i64 s,.int .i64 dd,.int .i64 sp,.int .i64 dp]:Array Value).setIfInBounds 0 (.int .i64 d.addr)=#[.int .i64 d.addr,.int .i64 dd,.int .i64 sp,.int .i64 dp]from rfl]at V8;go_upto_region 13 with fail;generalize w8.setCell ⟨w.heap.size+1,0,none⟩ (.int .i64 d.addr)=w9 at *;clear V7 d2 d4 x0 x1 x2 x3 x4;obtain⟨x0,x1,x2,x3,x4⟩:=GP.out V8;go_wp2_with fail;refine(PA.out V8).mono ?_;rintro e wf⟨rfl,VF⟩;have VZ:V BX R wf:=by rw[E4'.out];exact TO.out VF
   clear V8 VF;go_wp2_with fail
   go_returns
   exact⟨rfl,VZ⟩
def oneN:Int->Nat->d7:=λ_ _ _ _=>False
theorem je{Q:d7}{q:Int}{c:Nat}:un Q (oneN q c)=Q:=N7 λ_ _ h=>h
theorem sumN{Q:d7}{n:Int}:un Q (K9 n oneN)=Q:=N7 λ_ _ ⟨_,_,_,_,_,h⟩=>h
theorem oo(V:f8->d7->World->Prop)(d:Dv)(i:Nat)(ls:List Lk)(T:Tab)(k:Int)(S nb sb kb mb b o n cap cl:Nat)(L:Option Addr)(d8:Nat)(vb vr vt:Value)(Q0:d7)(w:World)(hi:(i:Int)<(n:Int))(hk:d.kind=5)
  (H:Hid (DV V d i ls T k S nb sb kb mb (.agg #[.slice (some ⟨b,o,none⟩) n cap,.slice L cl d8]) vr vt)) (V0:V [] Q0 w)
  (HD:Hid (∀bx Q W,V bx Q W->W.cell? ⟨b,o+i*7,none⟩=some (.string d.name)/\W.cell? ⟨b,o+i*7+1,none⟩=some (.int .i64 d.kind)/\W.cell? ⟨b,o+i*7+2,none⟩=some (.int .i64 d.addr)/\W.cell? ⟨b,o+i*7+3,none⟩=some (.int .u8 (d.pool:Int))/\W.cell? ⟨b,o+i*7+4,none⟩=some vb/\W.cell? ⟨b,o+i*7+5,none⟩=some vr/\W.cell? ⟨b,o+i*7+6,none⟩=some vt))
  (hv:(∃A n c,vb=.slice A n c)/\(∃A n c,vr=.slice A n c)/\∃A n c,vt=.slice A n c)
  (ha:0<=d.addr/\d.addr<16) (hbs:∀b∈d.backs,0<=b/\b<16) (hl3:d.backs.length<=3) (HB:Hid (∀bx Q W,V bx Q W->SlAt W.heap.size W 1 IsI vb d.backs)) :
  Calls prog 38 #[.pointer (some ⟨S,0,none⟩),.agg #[.slice (some ⟨b,o,none⟩) n cap,.slice L cl d8],.int .i64 (i:Int),.int .i64 k,.func (.func 36) #[] #[.pointer (some ⟨nb,0,none⟩),.pointer (some ⟨sb,0,none⟩),.pointer (some ⟨kb,0,none⟩),.pointer (some ⟨mb,0,none⟩)]] w λe w'=>e=.returned (.tuple #[])/\V [] (un Q0 (K9 ((2:Nat):Int) (one5 d (i:Int) ls T k))) w':=by
 obtain⟨⟨Ab,nbb,cb,rfl⟩,⟨Ar,nr,cr,rfl⟩,⟨At,nt,ct,rfl⟩⟩:=hv;obtain rfl:nbb=d.backs.length:=by
  obtain⟨_,_,e,_⟩:=HB.out _ _ _ V0;cases e;rfl
 have i0:(0:Int)<=(i:Int):=by omega
 have PO:Hid (∀W:World,Calls prog 19 #[.int .i64 5] W λe w'=>e=.returned (.int .i64 2)/\Below W.heap.size W w'):=λW=>aT 5 W;have PK:Hid (∀(c:Nat) (W:World),c<16384->Calls prog 21 #[.int .i64 (c:Int)] W λe w'=>e=.returned (pkV (pkN c))/\Below W.heap.size W w'):=λc W hc=>rpacket_any c W hc;have V1:=H.out.new V0 #[.slice (some ⟨b,o,none⟩) n cap,.slice L cl d8] 25;obtain⟨c0,c1,c2,c3,c4,c5,c6⟩:=HD.out _ _ _ V1;rw[hk]at c1;have N1:=(i7 w #[.slice (some ⟨b,o,none⟩) n cap,.slice L cl d8] 25);obtain⟨n1,n2⟩:=N1.two;clear V0 HD N1;go_enter func38,ntmps38;go_upto_region 2 with fail;have V2:=H.out.new V1 #[.string d.name,.int .i64 5,.int .i64 d.addr,.int .u8 (d.pool:Int),.slice Ab d.backs.length cb,.slice Ar nr cr,.slice At nt ct] 56;rw[World.size_alloc]at V2;clear V1 c0 c1 c2 c3 c4 c5 c6 n1 n2;generalize (w.alloc (.cells #[.slice (some ⟨b,o,none⟩) n cap,.slice L cl d8] 25)).alloc (.cells #[.string d.name,.int .i64 5,.int .i64 d.addr,.int .u8 (d.pool:Int),.slice Ab d.backs.length cb,.slice Ar nr cr,.slice At nt ct] 56)=w2 at *;generalize w.heap.size=y at *;obtain⟨n1,n2⟩:=(H.out.get V2 (_,_,_) (List.mem_cons_of_mem _ List.mem_cons_self)).two;have PE:=H.out.peer V2 1;obtain⟨p1,p2,hpl⟩:∃p1 p2:Int,E9 (peerF ls i 1)=.agg #[.int .i64 p1,.int .i64 p2]:=by cases peerF ls i 1 <;> exact⟨_,_,rfl⟩
 rw[hpl]at PE;obtain⟨op,hop⟩:∃op,Hid ((peerF ls (i:Int) 1).isSome=op):=⟨_,rfl⟩;rw[hop.out]at PE;clear hpl;go_wp2_with fail;refine PE.mono ?_;rintro e w3⟨rfl,V3⟩;clear PE V2 n1 n2;have V4:=H.out.new V3 #[.int .i64 p1,.int .i64 p2] 27;clear V3;go_upto_region 3 with fail;generalize w3.alloc (.cells #[.int .i64 p1,.int .i64 p2] 27)=w4 at *;generalize w3.heap.size=z at *;obtain⟨BX,hBX⟩:∃BX:f8,BX=[(z,#[.int .i64 p1,.int .i64 p2],27),(y+1,#[.string d.name,.int .i64 5,.int .i64 d.addr,.int .u8 (d.pool:Int),.slice Ab d.backs.length cb,.slice Ar nr cr,.slice At nt ct],56),(y,#[.slice (some ⟨b,o,none⟩) n cap,.slice L cl d8],25)]:=⟨_,rfl⟩;rw[<- hBX]at V4;have BD:Hid (∀{Q:d7} {W:World},V BX Q W->W.cell? ⟨y+1,0,none⟩=some (.string d.name)/\W.cell? ⟨y+1,1,none⟩=some (.int .i64 5)/\W.cell? ⟨y+1,2,none⟩=some (.int .i64 d.addr)/\W.cell? ⟨y+1,3,none⟩=some (.int .u8 (d.pool:Int))/\W.cell? ⟨y+1,4,none⟩=some (.slice Ab d.backs.length cb)/\W.cell? ⟨y+1,5,none⟩=some (.slice Ar nr cr)/\W.cell? ⟨y+1,6,none⟩=some (.slice At nt ct)):=λ{Q W} hv=>by
  rw[hBX]at hv;have B:=H.out.get hv (_,_,_) (List.mem_cons_of_mem _ List.mem_cons_self);exact⟨B.at 0,B.at 1,B.at 2,B.at 3,B.at 4,B.at 5,B.at 6⟩
 have GP:Hid (∀{x:Nat} {s0 s1 s2 s3:Int} {bx:f8} {Q:d7} {W:World},V ((x,#[.int .i64 s0,.int .i64 s1,.int .i64 s2,.int .i64 s3],29)::bx) Q W->W.cell? ⟨x,0,none⟩=some (.int .i64 s0)/\W.cell? ⟨x,1,none⟩=some (.int .i64 s1)/\W.cell? ⟨x,2,none⟩=some (.int .i64 s2)/\W.cell? ⟨x,3,none⟩=some (.int .i64 s3)):=λ{x s0 s1 s2 s3 bx Q W} hv=>by
  obtain⟨a0,a1,a2,a3,_⟩:=(H.out.get hv (_,_,_) List.mem_cons_self).four;exact⟨a0,a1,a2,a3⟩
 have BT:Hid (∀{y':Nat × Array Value × TypeId} {Q:d7} {W:World},V (y'::BX) Q W->V BX Q W):=λ{y' Q W} hv=>H.out.less hv (λy hy=>List.mem_cons_of_mem _ hy);obtain⟨_,d1,_⟩:=BD.out V4;go_wp2_with fail;go_loopw[14] (λs wr=>s=.int .i64 0/\V BX Q0 wr) (λ_ _=>0)
 case atStart=>exact⟨rfl,V4⟩
 case round =>
  clear V4 d1;obtain⟨rfl,V5⟩:=hrel;obtain⟨_,d1,_⟩:=BD.out V5;go_wp2_with fail;go_loopw[17] (λs wr=>∃q:Nat,s=.int .i64 (q:Int)/\q<=2/\V BX (un Q0 (partQ (one5 d (i:Int) ls T k) q 0)) wr) (λs _=>2-(intOf s).toNat)
  case atStart=>exact⟨0,rfl,by omega,by rw[cL];exact V5⟩
  case round =>
   clear V5 d1;obtain⟨q,rfl,hq,V6⟩:=hrel;obtain⟨_,d1,_⟩:=BD.out V6;go_wp2_with fail;refine(PO.out _).mono ?_;rintro e w6⟨rfl,hb6⟩;have V7:=H.out.below V6 hb6;clear V6 hb6 d1;by_cases hqP:q<2
   rotate_left
   ·obtain rfl:q=2:=by omega
    have V8:=H.out.less V7 (bx':=[]) (λy hy=>by cases hy);rw[cO]at V8;clear V7;go_wp2_with fail
    go_returns
    exact⟨rfl,V8⟩
   have q1:(q:Int)<2:=by omega
   go_wp2_with fail;go_loopw[18] (λs wr=>∃c:Nat,s=.int .i64 (c:Int)/\c<=16384/\V BX (un Q0 (partQ (one5 d (i:Int) ls T k) q c)) wr) (λs _=>16384-(intOf s).toNat)
   case atStart=>exact⟨0,rfl,by omega,V7⟩
   case round =>
    clear V7;obtain⟨c,rfl,hc,V8⟩:=hrel;by_cases hlt:c<16384
    rotate_left
    ·obtain rfl:c=16384:=by omega
     rw[cN]at V8;go_wp2_with fail;go_roundw
     case rel=>exact⟨q+1,by go_num,by omega,V8⟩
     case measure=>simp[intOf];omega
    have c1:(c:Int)<16384:=by omega
    have WA:=H.out.was V8 (q:Int) c (by omega) (by rw[hk];show(q:Int)<2;omega) hlt;have ST:Hid (∀W,V BX (un (un Q0 (partQ (one5 d (i:Int) ls T k) q c)) ((one5 d (i:Int) ls T k) (q:Int) c)) W->V BX (un Q0 (partQ (one5 d (i:Int) ls T k) q (c+1))) W):=λW h=>by rw[cM hlt]at h;exact h
    generalize un Q0 (partQ (one5 d (i:Int) ls T k) q c)=Qc at *;cases hw:wasB T k ((i:Int),(q:Int)) c with
    | false =>
      rw[hw]at WA;have V9:V BX (un Qc ((one5 d (i:Int) ls T k) (q:Int) c)) wr:=by
       rw[nZ hw];exact V8
      clear hw;go_wp2_with fail;refine WA.mono ?_;rintro e w'⟨rfl,rfl⟩;clear WA;go_wp2_with fail;go_roundw
      case rel=>exact⟨c+1,by go_num,by omega,ST.out _ V9⟩
      case measure=>simp[intOf];omega
    | true =>
      rw[hw]at WA;go_wp2_with fail;refine WA.mono ?_;rintro e w'⟨rfl,rfl⟩;clear WA;go_wp2_with fail;refine(PK.out c _ hlt).mono ?_;rintro e w9⟨rfl,hb9⟩;have V9:=H.out.below V8 hb9;have VA:=H.out.new V9 #[.int .i64 (pkN c).s,.int .i64 (pkN c).d,.int .i64 (pkN c).sp,.int .i64 (pkN c).dp] 29;clear V8 V9 hb9;go_upto_region 22 with fail;generalize w9.alloc (.cells #[.int .i64 (pkN c).s,.int .i64 (pkN c).d,.int .i64 (pkN c).sp,.int .i64 (pkN c).dp] 29)=wa at *;generalize w9.heap.size=u at *;have hpc:=pkN_ok hlt;obtain⟨d0,d1,d2,d3,d4,d5,d6⟩:=BD.out (BT.out VA);obtain⟨x0,x1,x2,x3⟩:=GP.out VA;have BAL:Hid (∀{bx:f8} {Q:d7} {W:World},V bx Q W->Calls prog 78 #[.pointer (some ⟨S,0,none⟩),.agg #[.string d.name,.int .i64 5,.int .i64 d.addr,.int .u8 (d.pool:Int),.slice Ab d.backs.length cb,.slice Ar nr cr,.slice At nt ct],.int .i64 (i:Int),.int .i64 (q:Int),.int .i64 k,pkV (pkN c),.bool op,.func (.func 36) #[] #[.pointer (some ⟨nb,0,none⟩),.pointer (some ⟨sb,0,none⟩),.pointer (some ⟨kb,0,none⟩),.pointer (some ⟨mb,0,none⟩)]] W λe w'=>e=.returned (.tuple #[])/\V bx (un Q (one5 d (i:Int) ls T k (q:Int) c)) w'):=λ{bx Q W} hv=>by
       obtain hqe|hqe:(q:Int)=0\/(q:Int)=1:=by omega
       ·rw[hqe]at hw ⊢;exact ol V d i ls T k S nb sb kb mb _ _ _ Ab cb bx Q W c op hlt H hv hbs hl3 HB hw
       ·rw[hqe]at hw ⊢;exact om V d i ls T k S nb sb kb mb _ _ _ Ab cb bx Q W c op hlt ha hk H hv hop.out HB hw
      clear hw;generalize one5 d (i:Int) ls T k (q:Int) c=R at *;generalize pkN c=pc at *;obtain⟨a,b',c',e'⟩:=pc;dsimp only at *;go_wp2_with fail;refine(BAL.out VA).mono ?_;rintro e wb⟨rfl,VZ⟩;clear BAL VA d0 d1 d2 d3 d4 d5 d6 x0 x1 x2 x3;go_wp2_with fail;go_roundw
      case rel=>exact⟨c+1,by go_num,by omega,ST.out _ (H.out.less VZ (λy hy=>List.mem_cons_of_mem _ hy))⟩
      case measure=>simp[intOf];omega
theorem ot(V:f8->d7->World->Prop)(d:Dv)(i:Nat)(ls:List Lk)(T:Tab)(k:Int)(S nb sb kb mb b o n cap cl:Nat)(L:Option Addr)(d8:Nat)(vb vr vt:Value)(Q0:d7)(w:World)(hi:(i:Int)<(n:Int))(P:Nat)(hP1:P<=4)(hP:Hid (portsV d.kind=(P:Int)))(f2:(d.kind == 2)=false)(f3:(d.kind == 3)=false)(f4:(d.kind == 4)=false)(f5:(d.kind == 5)=false)
  (H:Hid (DV V d i ls T k S nb sb kb mb (.agg #[.slice (some ⟨b,o,none⟩) n cap,.slice L cl d8]) vr vt)) (V0:V [] Q0 w)
  (HD:Hid (∀bx Q W,V bx Q W->W.cell? ⟨b,o+i*7,none⟩=some (.string d.name)/\W.cell? ⟨b,o+i*7+1,none⟩=some (.int .i64 d.kind)/\W.cell? ⟨b,o+i*7+2,none⟩=some (.int .i64 d.addr)/\W.cell? ⟨b,o+i*7+3,none⟩=some (.int .u8 (d.pool:Int))/\W.cell? ⟨b,o+i*7+4,none⟩=some vb/\W.cell? ⟨b,o+i*7+5,none⟩=some vr/\W.cell? ⟨b,o+i*7+6,none⟩=some vt))
  (hv:(∃A n c,vb=.slice A n c)/\(∃A n c,vr=.slice A n c)/\∃A n c,vt=.slice A n c) :
  Calls prog 38 #[.pointer (some ⟨S,0,none⟩),.agg #[.slice (some ⟨b,o,none⟩) n cap,.slice L cl d8],.int .i64 (i:Int),.int .i64 k,.func (.func 36) #[] #[.pointer (some ⟨nb,0,none⟩),.pointer (some ⟨sb,0,none⟩),.pointer (some ⟨kb,0,none⟩),.pointer (some ⟨mb,0,none⟩)]] w λe w'=>e=.returned (.tuple #[])/\V [] Q0 w':=by
 obtain⟨⟨Ab,nbb,cb,rfl⟩,⟨Ar,nr,cr,rfl⟩,⟨At,nt,ct,rfl⟩⟩:=hv;have i0:(0:Int)<=(i:Int):=by omega
 have PO:Hid (∀W:World,Calls prog 19 #[.int .i64 d.kind] W λe w'=>e=.returned (.int .i64 (P:Int))/\Below W.heap.size W w'):=λW=>by have:=aT d.kind W;rw[hP.out]at this;exact this
 have PK:Hid (∀(c:Nat) (W:World),c<16384->Calls prog 21 #[.int .i64 (c:Int)] W λe w'=>e=.returned (pkV (pkN c))/\Below W.heap.size W w'):=λc W hc=>rpacket_any c W hc;have V1:=H.out.new V0 #[.slice (some ⟨b,o,none⟩) n cap,.slice L cl d8] 25;obtain⟨c0,c1,c2,c3,c4,c5,c6⟩:=HD.out _ _ _ V1;skip
 have N1:=(i7 w #[.slice (some ⟨b,o,none⟩) n cap,.slice L cl d8] 25);obtain⟨n1,n2⟩:=N1.two;clear V0 HD N1;go_enter func38,ntmps38;go_upto_region 2 with fail;have V2:=H.out.new V1 #[.string d.name,.int .i64 d.kind,.int .i64 d.addr,.int .u8 (d.pool:Int),.slice Ab nbb cb,.slice Ar nr cr,.slice At nt ct] 56;rw[World.size_alloc]at V2;clear V1 c0 c1 c2 c3 c4 c5 c6 n1 n2;generalize (w.alloc (.cells #[.slice (some ⟨b,o,none⟩) n cap,.slice L cl d8] 25)).alloc (.cells #[.string d.name,.int .i64 d.kind,.int .i64 d.addr,.int .u8 (d.pool:Int),.slice Ab nbb cb,.slice Ar nr cr,.slice At nt ct] 56)=w2 at *;generalize w.heap.size=y at *;obtain⟨n1,n2⟩:=(H.out.get V2 (_,_,_) (List.mem_cons_of_mem _ List.mem_cons_self)).two;have PE:=H.out.peer V2 1;obtain⟨p1,p2,hpl⟩:∃p1 p2:Int,E9 (peerF ls i 1)=.agg #[.int .i64 p1,.int .i64 p2]:=by cases peerF ls i 1 <;> exact⟨_,_,rfl⟩
 rw[hpl]at PE;obtain⟨op,hop⟩:∃op,Hid ((peerF ls (i:Int) 1).isSome=op):=⟨_,rfl⟩;rw[hop.out]at PE;clear hpl;go_wp2_with fail;refine PE.mono ?_;rintro e w3⟨rfl,V3⟩;clear PE V2 n1 n2;have V4:=H.out.new V3 #[.int .i64 p1,.int .i64 p2] 27;clear V3;go_upto_region 3 with fail;generalize w3.alloc (.cells #[.int .i64 p1,.int .i64 p2] 27)=w4 at *;generalize w3.heap.size=z at *;obtain⟨BX,hBX⟩:∃BX:f8,BX=[(z,#[.int .i64 p1,.int .i64 p2],27),(y+1,#[.string d.name,.int .i64 d.kind,.int .i64 d.addr,.int .u8 (d.pool:Int),.slice Ab nbb cb,.slice Ar nr cr,.slice At nt ct],56),(y,#[.slice (some ⟨b,o,none⟩) n cap,.slice L cl d8],25)]:=⟨_,rfl⟩;rw[<- hBX]at V4;have BD:Hid (∀{Q:d7} {W:World},V BX Q W->W.cell? ⟨y+1,0,none⟩=some (.string d.name)/\W.cell? ⟨y+1,1,none⟩=some (.int .i64 d.kind)/\W.cell? ⟨y+1,2,none⟩=some (.int .i64 d.addr)/\W.cell? ⟨y+1,3,none⟩=some (.int .u8 (d.pool:Int))/\W.cell? ⟨y+1,4,none⟩=some (.slice Ab nbb cb)/\W.cell? ⟨y+1,5,none⟩=some (.slice Ar nr cr)/\W.cell? ⟨y+1,6,none⟩=some (.slice At nt ct)):=λ{Q W} hv=>by
  rw[hBX]at hv;have B:=H.out.get hv (_,_,_) (List.mem_cons_of_mem _ List.mem_cons_self);exact⟨B.at 0,B.at 1,B.at 2,B.at 3,B.at 4,B.at 5,B.at 6⟩
 have GP:Hid (∀{x:Nat} {s0 s1 s2 s3:Int} {bx:f8} {Q:d7} {W:World},V ((x,#[.int .i64 s0,.int .i64 s1,.int .i64 s2,.int .i64 s3],29)::bx) Q W->W.cell? ⟨x,0,none⟩=some (.int .i64 s0)/\W.cell? ⟨x,1,none⟩=some (.int .i64 s1)/\W.cell? ⟨x,2,none⟩=some (.int .i64 s2)/\W.cell? ⟨x,3,none⟩=some (.int .i64 s3)):=λ{x s0 s1 s2 s3 bx Q W} hv=>by
  obtain⟨a0,a1,a2,a3,_⟩:=(H.out.get hv (_,_,_) List.mem_cons_self).four;exact⟨a0,a1,a2,a3⟩
 have BT:Hid (∀{y':Nat × Array Value × TypeId} {Q:d7} {W:World},V (y'::BX) Q W->V BX Q W):=λ{y' Q W} hv=>H.out.less hv (λy hy=>List.mem_cons_of_mem _ hy);obtain⟨_,d1,_⟩:=BD.out V4;go_wp2_with fail;go_loopw[14] (λs wr=>s=.int .i64 0/\V BX Q0 wr) (λ_ _=>0)
 case atStart=>exact⟨rfl,V4⟩
 case round =>
  clear V4 d1;obtain⟨rfl,V5⟩:=hrel;obtain⟨_,d1,_⟩:=BD.out V5;go_wp2_with fail;go_loopw[17] (λs wr=>∃q:Nat,s=.int .i64 (q:Int)/\q<=P/\V BX (un Q0 (partQ (oneN) q 0)) wr) (λs _=>P-(intOf s).toNat)
  case atStart=>exact⟨0,rfl,by omega,by rw[cL];exact V5⟩
  case round =>
   clear V5 d1;obtain⟨q,rfl,hq,V6⟩:=hrel;obtain⟨_,d1,_⟩:=BD.out V6;go_wp2_with fail;refine(PO.out _).mono ?_;rintro e w6⟨rfl,hb6⟩;have V7:=H.out.below V6 hb6;clear V6 hb6 d1;by_cases hqP:q<P
   rotate_left
   ·obtain rfl:q=P:=by omega
    have V8:=H.out.less V7 (bx':=[]) (λy hy=>by cases hy);rw[cO,sumN]at V8;clear V7;go_wp2_with fail
    go_returns
    exact⟨rfl,V8⟩
   have q1:(q:Int)<(P:Int):=by omega
   go_wp2_with fail;go_loopw[18] (λs wr=>∃c:Nat,s=.int .i64 (c:Int)/\c<=16384/\V BX (un Q0 (partQ (oneN) q c)) wr) (λs _=>16384-(intOf s).toNat)
   case atStart=>exact⟨0,rfl,by omega,V7⟩
   case round =>
    clear V7;obtain⟨c,rfl,hc,V8⟩:=hrel;by_cases hlt:c<16384
    rotate_left
    ·obtain rfl:c=16384:=by omega
     rw[cN]at V8;go_wp2_with fail;go_roundw
     case rel=>exact⟨q+1,by go_num,by omega,V8⟩
     case measure=>simp[intOf];omega
    have c1:(c:Int)<16384:=by omega
    have WA:=H.out.was V8 (q:Int) c (by omega) (by rw[hP.out];show(q:Int)<(P:Int);omega) hlt;have ST:Hid (∀W,V BX (un (un Q0 (partQ (oneN) q c)) ((oneN) (q:Int) c)) W->V BX (un Q0 (partQ (oneN) q (c+1))) W):=λW h=>by rw[cM hlt]at h;exact h
    generalize un Q0 (partQ (oneN) q c)=Qc at *;cases hw:wasB T k ((i:Int),(q:Int)) c with
    | false =>
      rw[hw]at WA;have V9:V BX (un Qc ((oneN) (q:Int) c)) wr:=by
       rw[je];exact V8
      clear hw;go_wp2_with fail;refine WA.mono ?_;rintro e w'⟨rfl,rfl⟩;clear WA;go_wp2_with fail;go_roundw
      case rel=>exact⟨c+1,by go_num,by omega,ST.out _ V9⟩
      case measure=>simp[intOf];omega
    | true =>
      rw[hw]at WA;go_wp2_with fail;refine WA.mono ?_;rintro e w'⟨rfl,rfl⟩;clear WA;go_wp2_with fail;refine(PK.out c _ hlt).mono ?_;rintro e w9⟨rfl,hb9⟩;have V9:=H.out.below V8 hb9;have VA:=H.out.new V9 #[.int .i64 (pkN c).s,.int .i64 (pkN c).d,.int .i64 (pkN c).sp,.int .i64 (pkN c).dp] 29;clear V8 V9 hb9;go_upto_region 22 with fail;generalize w9.alloc (.cells #[.int .i64 (pkN c).s,.int .i64 (pkN c).d,.int .i64 (pkN c).sp,.int .i64 (pkN c).dp] 29)=wa at *;generalize w9.heap.size=u at *;have hpc:=pkN_ok hlt;obtain⟨_,d1,_⟩:=BD.out (BT.out VA);have VZ:V ((u,#[.int .i64 (pkN c).s,.int .i64 (pkN c).d,.int .i64 (pkN c).sp,.int .i64 (pkN c).dp],29)::BX) (un Qc (oneN (q:Int) c)) wa:=by rw[je];exact VA
      clear hw VA;go_wp2_with fail;go_roundw
      case rel=>exact⟨c+1,by go_num,by omega,ST.out _ (H.out.less VZ (λy hy=>List.mem_cons_of_mem _ hy))⟩
      case measure=>simp[intOf];omega
section
variable {d:Dv}{i:Int}{ls:List Lk}{T:Tab}{k:Int}{Q:d7}{q:Int}{c:Nat}{os:List Pk}
theorem jf(h:wasB T k (i,q) c=false):un Q (one4 d i ls T k os q c)=Q:=N7 λ_ _ ⟨h1,_⟩=>by rw[h]at h1;cases h1
def hideS(d:Dv)(i:Int)(ls:List Lk)(p:Pk)(x:Nat):d7:=λt c'=>∃y:Nat,y<x/\poolB d (y:Int)=true/\peerF ls i 1=some t/\c'=codeN ⟨d.addr,p.d,(y:Int),p.dp⟩
theorem jg{p:Pk}:un Q (hideS d i ls p 0)=Q:=N7 λ_ _ ⟨j,h,_⟩=>by omega
theorem jh{p:Pk}{x:Nat}(h:poolB d (x:Int)=false):un Q (hideS d i ls p (x+1))=un Q (hideS d i ls p x):=by
 funext t c'
 refine propext (or_congr Iff.rfl ⟨λ⟨y,h1,h2,h3⟩=>⟨y,?_,h2,h3⟩,λ⟨y,h1,h2⟩=>⟨y,by omega,h2⟩⟩);by_cases e:y=x
 ·subst e;rw[h]at h2;cases h2
 ·omega
theorem ji{p:Pk}{x:Nat}(h:poolB d (x:Int)=true):i4 (un Q (hideS d i ls p x)) (peerF ls i 1) (codeN ⟨d.addr,p.d,(x:Int),p.dp⟩)=un Q (hideS d i ls p (x+1)):=by
 funext t c'
 refine propext ⟨?_,?_⟩
 ·rintro((h1|⟨y,h1,h2,h3⟩)|⟨h1,h2⟩)
  ·exact Or.inl h1
  ·exact Or.inr ⟨y,by omega,h2,h3⟩
  ·exact Or.inr ⟨x,by omega,h,h1,h2⟩
 ·rintro(h1|⟨y,h1,h2,h3,h4⟩)
  ·exact Or.inl (Or.inl h1)
  ·by_cases e:y=x
   ·subst e;exact Or.inr ⟨h3,h4⟩
   ·exact Or.inl (Or.inr ⟨y,by omega,h2,h3,h4⟩)
theorem jj(h1:wasB T k (i,0) c=true):un Q (hideS d i ls (pkN c) 8)=un Q (one4 d i ls T k os 0 c):=by
 funext t c'
 refine propext (or_congr Iff.rfl ⟨λ⟨y,a1,a2,a3,a4⟩=>⟨h1,Or.inl ⟨rfl,y,a1,a2,a3,a4⟩⟩,?_⟩);rintro⟨_,⟨_,y,a1,a2,a3,a4⟩|⟨a,_⟩⟩
 ·exact⟨y,a1,a2,a3,a4⟩
 ·omega
def showS(i:Int)(ls:List Lk)(os:List Pk)(p:Pk)(x:Nat):d7:=λt c'=>∃(j:Nat) (o:Pk),j<x/\os[j]?=some o/\peerF ls i 0=some t/\c'=codeN ⟨p.s,o.s,p.sp,o.sp⟩
theorem ov{p:Pk}:un Q (showS i ls os p 0)=Q:=N7 λ_ _ ⟨j,o,h,_⟩=>by omega
theorem ow{p o:Pk}{x:Nat}(h:os[x]?=some o):i4 (un Q (showS i ls os p x)) (peerF ls i 0) (codeN ⟨p.s,o.s,p.sp,o.sp⟩)=un Q (showS i ls os p (x+1)):=by
 funext t c'
 refine propext ⟨?_,?_⟩
 ·rintro((h1|⟨j,b',h1,h2,h3,h4⟩)|⟨h1,h2⟩)
  ·exact Or.inl h1
  ·exact Or.inr ⟨j,b',by omega,h2,h3,h4⟩
  ·exact Or.inr ⟨x,o,by omega,h,h1,h2⟩
 ·rintro(h1|⟨j,b',h1,h2,h3,h4⟩)
  ·exact Or.inl (Or.inl h1)
  ·by_cases e:j=x
   ·subst e;rw[h]at h2;cases h2;exact Or.inr ⟨h3,h4⟩
   ·exact Or.inl (Or.inr ⟨j,b',by omega,h2,h3,h4⟩)
theorem ox(h1:wasB T k (i,1) c=true)(h2:(pkN c).d=d.addr)(h3:poolB d (pkN c).dp=true):un Q (showS i ls os (pkN c) os.length)=un Q (one4 d i ls T k os 1 c):=by
 funext t c'
 refine propext (or_congr Iff.rfl ⟨λ⟨j,o,_,a2,a3,a4⟩=>⟨h1,Or.inr ⟨rfl,h2,h3,o,List.mem_of_getElem? a2,a3,a4⟩⟩,?_⟩);rintro⟨_,⟨a,_⟩|⟨_,_,_,o,a2,a3,a4⟩⟩
 ·omega
 ·obtain⟨j,hj,e⟩:=List.mem_iff_getElem.1 a2;exact⟨j,o,hj,by rw[List.getElem?_eq_getElem hj,e],a3,a4⟩
theorem oy(h:¬((pkN c).d=d.addr/\poolB d (pkN c).dp=true)):un Q (one4 d i ls T k os 1 c)=Q:=N7 λ_ _ ⟨_,a⟩=>by
 rcases a with⟨a,_⟩|⟨_,a1,a2,_⟩
 ·omega
 ·exact h ⟨a1,a2⟩
theorem oz:un Q (one4 d i ls T k [] 1 c)=Q:=N7 λ_ _ ⟨_,a⟩=>by
 rcases a with⟨a,_⟩|⟨_,_,_,o,a,_⟩
 ·omega
 ·cases a
def W9(i:Int)(T:Tab)(k:Int)(c:Nat)(os:List Pk):Prop :=
 (∀o∈os,∃y:Nat,y<c/\o.s=((y / 8:Nat):Int)/\o.sp=((y % 8:Nat):Int)/\∃x:Nat,x<128/\wasB T k (i,0) (codeN ⟨((y / 8:Nat):Int),((x / 8:Nat):Int),((y % 8:Nat):Int),((x % 8:Nat):Int)⟩)=true) /\
 (∀y:Nat,y<c->∀x:Nat,x<128->wasB T k (i,0) (codeN ⟨((y / 8:Nat):Int),((x / 8:Nat):Int),((y % 8:Nat):Int),((x % 8:Nat):Int)⟩)=true->∃o∈os,o.s=((y / 8:Nat):Int)/\o.sp=((y % 8:Nat):Int))
theorem oA:W9 i T k 0 []:=⟨(λo h=>by cases h),λy h=>by omega⟩
theorem oB(h:W9 i T k c os)(hn:∀x:Nat,x<128->wasB T k (i,0) (codeN ⟨((c / 8:Nat):Int),((x / 8:Nat):Int),((c % 8:Nat):Int),((x % 8:Nat):Int)⟩)=false):W9 i T k (c+1) os:=by
 refine⟨λo ho=>?_,λy hy x hx hw=>?_⟩
 ·obtain⟨y,h1,h2⟩:=h.1 o ho;exact⟨y,by omega,h2⟩
 ·by_cases e:y=c
  ·subst e;rw[hn x hx]at hw;cases hw
  ·exact h.2 y (by omega) x hx hw
theorem oC(h:W9 i T k c os){x:Nat}(hx:x<128)(hw:wasB T k (i,0) (codeN ⟨((c / 8:Nat):Int),((x / 8:Nat):Int),((c % 8:Nat):Int),((x % 8:Nat):Int)⟩)=true):W9 i T k (c+1) (os++[⟨((c / 8:Nat):Int),((x / 8:Nat):Int),((c % 8:Nat):Int),((x % 8:Nat):Int)⟩]):=by
 refine⟨λo ho=>?_,λy hy x' hx' hw'=>?_⟩
 ·rcases List.mem_append.1 ho with ho|ho
  ·obtain⟨y,h1,h2⟩:=h.1 o ho;exact⟨y,by omega,h2⟩
  ·simp only[List.mem_singleton]at ho;subst ho;exact⟨c,by omega,rfl,rfl,x,hx,hw⟩
 ·by_cases e:y=c
  ·subst e;exact⟨_,List.mem_append.2 (Or.inr (List.mem_singleton.2 rfl)),rfl,rfl⟩
  ·obtain⟨o,h1,h2⟩:=h.2 y (by omega) x' hx' hw';exact⟨o,List.mem_append.2 (Or.inl h1),h2⟩
theorem oD(h:W9 i T k 128 os):dt i T k os:=by
 intro s sp;constructor
 ·rintro⟨o,ho,rfl,rfl⟩;obtain⟨y,hy,e1,e2,x,hx,hw⟩:=h.1 o ho;refine⟨((x / 8:Nat):Int),((x % 8:Nat):Int),?_,?_⟩
  ·rw[e1,e2];exact n9 (by dsimp only;omega) (by dsimp only;omega) (by dsimp only;omega) (by dsimp only;omega)
  ·rw[e1,e2];exact hw
 ·rintro⟨x,y,hp,hw⟩;obtain⟨h1,h2,h3,h4⟩:=p9 hp;dsimp only at h1 h2 h3 h4;have e1:(((s.toNat * 8+sp.toNat) / 8:Nat):Int)=s:=by omega
  have e2:(((s.toNat * 8+sp.toNat) % 8:Nat):Int)=sp:=by omega
  have e3:(((x.toNat * 8+y.toNat) / 8:Nat):Int)=x:=by omega
  have e4:(((x.toNat * 8+y.toNat) % 8:Nat):Int)=y:=by omega
  have:=h.2 (s.toNat * 8+sp.toNat) (by omega) (x.toNat * 8+y.toNat) (by omega);rw[e1,e2,e3,e4]at this;exact this hw
end
theorem dev4f{d:Dv}{i:Int}{ls:List Lk}{T:Tab}{k:Int}(hk:d.kind=4)(ha:0<=d.addr/\d.addr<16)(h1:∀c,c<16384->wasB T k (i,1) c=false):K9 2 (one4 d i ls T k [])=S6 d i ls T k:=by
 have e:∀os:List Pk,K9 2 (one4 d i ls T k [])=K9 2 (one4 d i ls T k os):=λos=>by
  funext t c'
  refine propext ⟨λ⟨q,c,a1,a2,a3,a4,a5⟩=>⟨q,c,a1,a2,a3,a4,?_⟩,λ⟨q,c,a1,a2,a3,a4,a5⟩=>⟨q,c,a1,a2,a3,a4,?_⟩⟩
  ·rcases a5 with a5|⟨rfl,_⟩
   ·exact Or.inl a5
   ·rw[h1 _ a3]at a4;cases a4
  ·rcases a5 with a5|⟨rfl,_⟩
   ·exact Or.inl a5
   ·rw[h1 _ a3]at a4;cases a4
 obtain⟨os,ho⟩:∃os:List Pk,dt i T k os:=by
  classical
  refine⟨((List.range 128).filter λy=>decide (∃a b,bt T k (i,0) ⟨((y / 8:Nat):Int),a,((y % 8:Nat):Int),b⟩)).map λy=>⟨((y / 8:Nat):Int),0,((y % 8:Nat):Int),0⟩,λs sp=>⟨?_,?_⟩⟩
  ·rintro⟨o,ho,rfl,rfl⟩;obtain⟨y,hy,rfl⟩:=List.mem_map.1 ho;exact of_decide_eq_true (List.mem_filter.1 hy).2
  ·rintro⟨a,b,hw⟩;obtain⟨b1,b2,b3,b4⟩:=p9 hw.1;dsimp only at b1 b3;have e1:(((s.toNat * 8+sp.toNat) / 8:Nat):Int)=s:=by omega
   have e2:(((s.toNat * 8+sp.toNat) % 8:Nat):Int)=sp:=by omega
   refine⟨⟨s,0,sp,0⟩,List.mem_map.2 ⟨s.toNat * 8+sp.toNat,List.mem_filter.2 ⟨List.mem_range.2 (by omega),decide_eq_true ⟨a,b,?_⟩⟩,?_⟩,rfl,rfl⟩
   ·rw[e1,e2];exact hw
   ·rw[e1,e2]
 rw[e os];exact dev4 hk ha ho
structure DL(V:f8->d7->World->Prop)(n0:Nat):Prop where
 up:∀{bx:f8} {Q:d7} {W:World},V bx Q W->n0<=W.heap.size
 low:∀{bx:f8} {Q:d7} {W W':World} {hb:Nat},V bx Q W->n0<=hb->(∀y∈bx,y.1<hb)->Below hb W W'->V bx Q W'
 add:∀{bx:f8} {Q:d7} {W:World} {g:Nat} {c:Array Value} {t:TypeId},V bx Q W->n0<=g->Bk W g c t->V ((g,c,t)::bx) Q W
def E8(os:List Pk):List Value:=os.flatMap λp=>[.int .i64 p.s,.int .i64 p.d,.int .i64 p.sp,.int .i64 p.dp]
theorem oE(os:List Pk)(p:Pk):E8 (os++[p])=E8 os++[.int .i64 p.s,.int .i64 p.d,.int .i64 p.sp,.int .i64 p.dp]:=by simp[E8]
theorem jk:∀{os:List Pk} {j:Nat} {o:Pk},os[j]?=some o->(E8 os)[j*4]?=some (.int .i64 o.s)/\(E8 os)[j*4+2]?=some (.int .i64 o.sp)
 | [],_,_,h=>by simp at h
 | p::l,0,o,h=>by
   simp at h;subst h;exact⟨rfl,rfl⟩
 | p::l,j+1,o,h=>by
   have h':l[j]?=some o:=by simpa using h
   obtain⟨h1,h2⟩:=jk h';have e:E8 (p::l)=.int .i64 p.s::.int .i64 p.d::.int .i64 p.sp::.int .i64 p.dp::E8 l:=rfl;rw[e,show(j+1)*4=j*4+1+1+1+1 by omega,show j*4+1+1+1+1+2=(j*4+2)+1+1+1+1 by omega];exact⟨h1,h2⟩
theorem uPks:prog.underlying 149=some (.slice 29):=by kernel_rfl
theorem oF:(prog.info? 29).map (λi=>(i.zero,i.size,i.bytes))=some (some (.agg #[.int .i64 0,.int .i64 0,.int .i64 0,.int .i64 0]),4,32):=by kernel_rfl
theorem oG{W:World}{hb:Nat}{v:Value}{os:List Pk}(h:W.ownsRow hb 29 4 v os.length (E8 os))(p:Pk)(hn:os.length<=128)(hB:hb<=W.heap.size) :
  ∃g cap W1,(Builtin.append_ #[149,149] 149 #[v,.slice (some ⟨W.heap.size,0,none⟩) 1 1]).run prog (W.alloc (.cells #[.int .i64 p.s,.int .i64 p.d,.int .i64 p.sp,.int .i64 p.dp] 29))=.ok (.slice (some ⟨g,0,none⟩) (os.length+1) cap) W1/\W1.ownsRow hb 29 4 (.slice (some ⟨g,0,none⟩) (os.length+1) cap) (os.length+1) (E8 (os++[p]))/\Below hb W W1:=by
 obtain⟨v',W1,hr,h1,h2,_⟩:=ba uPks oF rfl (by omega) (by omega) 149 h (us:=[.int .i64 p.s,.int .i64 p.d,.int .i64 p.sp,.int .i64 p.dp]) rfl (by simp[Value.oneCell']) (by omega) hB;have h1':=h1;obtain⟨_,⟨_,h0⟩|⟨g,cap,cur,rfl,_⟩⟩:=h1'
 ·omega
 ·rw[oE];exact⟨g,cap,W1,hr,h1,h2⟩
theorem oH{V:f8->d7->World->Prop}{n0 hb:Nat}(HL:DL V n0)(get:∀{bx:f8} {Q:d7} {W:World},V bx Q W->∀y∈bx,Bk W y.1 y.2.1 y.2.2){W:World}{BX:f8}{Q:d7}{A:Option Addr}{cap:Nat}{os:List Pk}(h:V BX Q W)(hn:n0<=hb)(ho:W.ownsRow hb 29 4 (.slice A os.length cap) os.length (E8 os)) :
  ∃OB:f8,V (OB++BX) Q W/\∀(Q':d7) (W':World) (bx:f8) (j:Nat) (o:Pk),os[j]?=some o->(∀y∈OB++BX,y∈bx)->V bx Q' W'->∃g,A=some ⟨g,0,none⟩/\W'.cell? ⟨g,j*4,none⟩=some (.int .i64 o.s)/\W'.cell? ⟨g,j*4+2,none⟩=some (.int .i64 o.sp):=by
 obtain⟨hl,⟨_,h0⟩|⟨g,d8,cur,e,hB,hg,h1,h2,h3,h4⟩⟩:=ho
 ·refine⟨[],h,λQ' W' bx j o hj=>?_⟩;rw[List.eq_nil_of_length_eq_zero h0]at hj;simp at hj
 ·simp only[Value.slice.injEq]at e;obtain⟨rfl,_,rfl⟩:=e;refine⟨[(g,cur,29)],HL.add h (by omega) hg,λQ' W' bx j o hj hs hv=>⟨g,rfl,?_⟩⟩;have B:=get hv (g,cur,29) (hs _ (by simp));obtain⟨p1,p2⟩:=jk hj;have hlt:=(List.getElem?_eq_some_iff.1 p2).1;have key:∀m,m<(E8 os).length->cur[m]?=(E8 os)[m]?:=λm hm=>by
   rw[<- h4,List.getElem?_take,if_pos (by omega)];simp
  refine⟨?_,?_⟩
  ·rw[B.at (j*4)];show cur[j*4]?=_;rw[key _ (by omega),p1]
  ·rw[B.at (j*4+2)];show cur[j*4+2]?=_;rw[key _ hlt,p2]
theorem oI(V:f8->d7->World->Prop)(d:Dv)(i:Nat)(ls:List Lk)(T:Tab)(k:Int)(S nb sb kb mb b o n cap cl:Nat)(L:Option Addr)(d8:Nat)(vb vr vt:Value)(Q0:d7)(w:World)(hop0:(peerF ls (i:Int) 1).isSome=false)(hi:(i:Int)<(n:Int))(hk:d.kind=4)
  (H:Hid (DV V d i ls T k S nb sb kb mb (.agg #[.slice (some ⟨b,o,none⟩) n cap,.slice L cl d8]) vr vt)) (V0:V [] Q0 w)
  (HD:Hid (∀bx Q W,V bx Q W->W.cell? ⟨b,o+i*7,none⟩=some (.string d.name)/\W.cell? ⟨b,o+i*7+1,none⟩=some (.int .i64 d.kind)/\W.cell? ⟨b,o+i*7+2,none⟩=some (.int .i64 d.addr)/\W.cell? ⟨b,o+i*7+3,none⟩=some (.int .u8 (d.pool:Int))/\W.cell? ⟨b,o+i*7+4,none⟩=some vb/\W.cell? ⟨b,o+i*7+5,none⟩=some vr/\W.cell? ⟨b,o+i*7+6,none⟩=some vt))
  (hv:(∃A n c,vb=.slice A n c)/\(∃A n c,vr=.slice A n c)/\∃A n c,vt=.slice A n c)
  (ha:0<=d.addr/\d.addr<16) (hpl:d.pool<256) :
  Calls prog 38 #[.pointer (some ⟨S,0,none⟩),.agg #[.slice (some ⟨b,o,none⟩) n cap,.slice L cl d8],.int .i64 (i:Int),.int .i64 k,.func (.func 36) #[] #[.pointer (some ⟨nb,0,none⟩),.pointer (some ⟨sb,0,none⟩),.pointer (some ⟨kb,0,none⟩),.pointer (some ⟨mb,0,none⟩)]] w λe w'=>e=.returned (.tuple #[])/\V [] (un Q0 (K9 ((2:Nat):Int) (one4 d (i:Int) ls T k []))) w':=by
 obtain⟨⟨Ab,nbb,cb,rfl⟩,⟨Ar,nr,cr,rfl⟩,⟨At,nt,ct,rfl⟩⟩:=hv;have i0:(0:Int)<=(i:Int):=by omega
 have PO:Hid (∀W:World,Calls prog 19 #[.int .i64 4] W λe w'=>e=.returned (.int .i64 2)/\Below W.heap.size W w'):=λW=>aT 4 W;have PK:Hid (∀(c:Nat) (W:World),c<16384->Calls prog 21 #[.int .i64 (c:Int)] W λe w'=>e=.returned (pkV (pkN c))/\Below W.heap.size W w'):=λc W hc=>rpacket_any c W hc;have V1:=H.out.new V0 #[.slice (some ⟨b,o,none⟩) n cap,.slice L cl d8] 25;obtain⟨c0,c1,c2,c3,c4,c5,c6⟩:=HD.out _ _ _ V1;rw[hk]at c1;have N1:=(i7 w #[.slice (some ⟨b,o,none⟩) n cap,.slice L cl d8] 25);obtain⟨n1,n2⟩:=N1.two;clear V0 HD N1;go_enter func38,ntmps38;go_upto_region 2 with fail;have V2:=H.out.new V1 #[.string d.name,.int .i64 4,.int .i64 d.addr,.int .u8 (d.pool:Int),.slice Ab nbb cb,.slice Ar nr cr,.slice At nt ct] 56;rw[World.size_alloc]at V2;clear V1 c0 c1 c2 c3 c4 c5 c6 n1 n2;generalize (w.alloc (.cells #[.slice (some ⟨b,o,none⟩) n cap,.slice L cl d8] 25)).alloc (.cells #[.string d.name,.int .i64 4,.int .i64 d.addr,.int .u8 (d.pool:Int),.slice Ab nbb cb,.slice Ar nr cr,.slice At nt ct] 56)=w2 at *;generalize w.heap.size=y at *;obtain⟨n1,n2⟩:=(H.out.get V2 (_,_,_) (List.mem_cons_of_mem _ List.mem_cons_self)).two;have PE:=H.out.peer V2 1;obtain⟨p1,p2,hpl⟩:∃p1 p2:Int,E9 (peerF ls i 1)=.agg #[.int .i64 p1,.int .i64 p2]:=by cases peerF ls i 1 <;> exact⟨_,_,rfl⟩
 rw[hpl]at PE;rw[hop0]at PE;clear hpl;go_wp2_with fail;refine PE.mono ?_;rintro e w3⟨rfl,V3⟩;clear PE V2 n1 n2;have V4:=H.out.new V3 #[.int .i64 p1,.int .i64 p2] 27;clear V3;go_upto_region 3 with fail;generalize w3.alloc (.cells #[.int .i64 p1,.int .i64 p2] 27)=w4 at *;generalize w3.heap.size=z at *;obtain⟨BX,hBX⟩:∃BX:f8,BX=[(z,#[.int .i64 p1,.int .i64 p2],27),(y+1,#[.string d.name,.int .i64 4,.int .i64 d.addr,.int .u8 (d.pool:Int),.slice Ab nbb cb,.slice Ar nr cr,.slice At nt ct],56),(y,#[.slice (some ⟨b,o,none⟩) n cap,.slice L cl d8],25)]:=⟨_,rfl⟩;rw[<- hBX]at V4;have BD:Hid (∀{Q:d7} {W:World},V BX Q W->W.cell? ⟨y+1,0,none⟩=some (.string d.name)/\W.cell? ⟨y+1,1,none⟩=some (.int .i64 4)/\W.cell? ⟨y+1,2,none⟩=some (.int .i64 d.addr)/\W.cell? ⟨y+1,3,none⟩=some (.int .u8 (d.pool:Int))/\W.cell? ⟨y+1,4,none⟩=some (.slice Ab nbb cb)/\W.cell? ⟨y+1,5,none⟩=some (.slice Ar nr cr)/\W.cell? ⟨y+1,6,none⟩=some (.slice At nt ct)):=λ{Q W} hv=>by
  rw[hBX]at hv;have B:=H.out.get hv (_,_,_) (List.mem_cons_of_mem _ List.mem_cons_self);exact⟨B.at 0,B.at 1,B.at 2,B.at 3,B.at 4,B.at 5,B.at 6⟩
 have GP:Hid (∀{x:Nat} {s0 s1 s2 s3:Int} {bx:f8} {Q:d7} {W:World},V ((x,#[.int .i64 s0,.int .i64 s1,.int .i64 s2,.int .i64 s3],29)::bx) Q W->W.cell? ⟨x,0,none⟩=some (.int .i64 s0)/\W.cell? ⟨x,1,none⟩=some (.int .i64 s1)/\W.cell? ⟨x,2,none⟩=some (.int .i64 s2)/\W.cell? ⟨x,3,none⟩=some (.int .i64 s3)):=λ{x s0 s1 s2 s3 bx Q W} hv=>by
  obtain⟨a0,a1,a2,a3,_⟩:=(H.out.get hv (_,_,_) List.mem_cons_self).four;exact⟨a0,a1,a2,a3⟩
 have BT:Hid (∀{y':Nat × Array Value × TypeId} {Q:d7} {W:World},V (y'::BX) Q W->V BX Q W):=λ{y' Q W} hv=>H.out.less hv (λy hy=>List.mem_cons_of_mem _ hy);have HA:Hid (∀(b:Nat) (n:Int) (W:World),b<65536->Calls prog 77 #[.int .i64 (b:Int),.int .i64 n] W λe w'=>e=.returned (.bool (p7 b n))/\w'=W):=λb n W h=>rhas_int b n W h;have hpool:∀n:Int,0<=n/\n<8->p7 d.pool n=poolB d n:=λn hn=>by
  unfold p7 poolB poB;rw[show decide (n<8)=true from decide_eq_true hn.2];simp
 obtain⟨_,d1,_⟩:=BD.out V4;go_wp2_with fail;go_loopw[13,14] (λs13 s wr=>s13=.slice none 0 0/\s=.int .i64 0/\V BX Q0 wr) (λ_ _ _=>0)
 case atStart=>exact⟨rfl,rfl,V4⟩
 case round =>
  clear V4 d1;obtain⟨rfl,rfl,V6⟩:=hrel;obtain⟨_,e1,_⟩:=BD.out V6;go_wp2_with fail;go_loopw[17] (λs wr=>∃q:Nat,s=.int .i64 (q:Int)/\q<=2/\V BX (un Q0 (partQ (one4 d (i:Int) ls T k []) q 0)) wr) (λs _=>2-(intOf s).toNat)
  case atStart=>exact⟨0,rfl,by omega,by rw[cL];exact V6⟩
  case round =>
   clear V6 e1;obtain⟨q,rfl,hq,V6⟩:=hrel;obtain⟨_,e1,_⟩:=BD.out V6;go_wp2_with fail;refine(PO.out _).mono ?_;rintro e w6⟨rfl,hb6⟩;have V7:=H.out.below V6 hb6;clear V6 hb6 e1;by_cases hqP:q<2
   rotate_left
   ·obtain rfl:q=2:=by omega
    have V8:=H.out.less V7 (bx':=[]) (λy hy=>by cases hy);rw[cO]at V8;clear V7;go_wp2_with fail
    go_returns
    exact⟨rfl,V8⟩
   have q1:(q:Int)<2:=by omega
   go_wp2_with fail;go_loopw[18] (λs wr=>∃c:Nat,s=.int .i64 (c:Int)/\c<=16384/\V BX (un Q0 (partQ (one4 d (i:Int) ls T k []) q c)) wr) (λs _=>16384-(intOf s).toNat)
   case atStart=>exact⟨0,rfl,by omega,V7⟩
   case round =>
    clear V7;obtain⟨c,rfl,hc,V8⟩:=hrel;by_cases hlt:c<16384
    rotate_left
    ·obtain rfl:c=16384:=by omega
     rw[cN]at V8;go_wp2_with fail;go_roundw
     case rel=>exact⟨q+1,by go_num,by omega,V8⟩
     case measure=>first|omega|(simp[intOf];omega)|simp[intOf]
    have c1:(c:Int)<16384:=by omega
    have WA:=H.out.was V8 (q:Int) c (by omega) (by rw[hk];show(q:Int)<2;omega) hlt;have ST:Hid (∀W,V BX (un (un Q0 (partQ (one4 d (i:Int) ls T k []) q c)) ((one4 d (i:Int) ls T k []) (q:Int) c)) W->V BX (un Q0 (partQ (one4 d (i:Int) ls T k []) q (c+1))) W):=λW h=>by rw[cM hlt]at h;exact h
    generalize un Q0 (partQ (one4 d (i:Int) ls T k []) q c)=Qc at *;cases hw:wasB T k ((i:Int),(q:Int)) c with
    | false =>
      rw[hw]at WA;have V9:V BX (un Qc ((one4 d (i:Int) ls T k []) (q:Int) c)) wr:=by
       rw[jf hw];exact V8
      clear hw;go_wp2_with fail;refine WA.mono ?_;rintro e w'⟨rfl,rfl⟩;clear WA;go_wp2_with fail;go_roundw
      case rel=>exact⟨c+1,by go_num,by omega,ST.out _ V9⟩
      case measure=>first|omega|(simp[intOf];omega)|simp[intOf]
    | true =>
      rw[hw]at WA;go_wp2_with fail;refine WA.mono ?_;rintro e w'⟨rfl,rfl⟩;clear WA;go_wp2_with fail;refine(PK.out c _ hlt).mono ?_;rintro e w9⟨rfl,hb9⟩;have V9:=H.out.below V8 hb9;have VA:=H.out.new V9 #[.int .i64 (pkN c).s,.int .i64 (pkN c).d,.int .i64 (pkN c).sp,.int .i64 (pkN c).dp] 29;clear V8 V9 hb9;go_upto_region 22 with fail;generalize w9.alloc (.cells #[.int .i64 (pkN c).s,.int .i64 (pkN c).d,.int .i64 (pkN c).sp,.int .i64 (pkN c).dp] 29)=wa at *;generalize w9.heap.size=u at *;have hpc:=pkN_ok hlt;obtain⟨hp1,hp2,hp3,hp4⟩:=p9 hpc;obtain⟨_,e1,_⟩:=BD.out (BT.out VA);obtain hqe|hqe:(q:Int)=0\/(q:Int)=1:=by omega
      ·have f0:((q:Int) == 0)=true:=by simpa using hqe
       have f1:((q:Int) == 1)=false:=by simp[hqe]
       have PX:Hid (∀{bx:f8} {Q:d7} {W:World} (x:Nat),x<8->V bx Q W->Calls prog 36 #[.int .i64 (i:Int),.int .i64 1,.agg #[.int .i64 d.addr,.int .i64 (pkN c).d,.int .i64 (x:Int),.int .i64 (pkN c).dp],.pointer (some ⟨nb,0,none⟩),.pointer (some ⟨sb,0,none⟩),.pointer (some ⟨kb,0,none⟩),.pointer (some ⟨mb,0,none⟩)] W λe w'=>e=.returned (.tuple #[])/\V bx (i4 Q (peerF ls (i:Int) 1) (codeN ⟨d.addr,(pkN c).d,(x:Int),(pkN c).dp⟩)) w'):=λx hx h=>H.out.put h 1 ⟨d.addr,(pkN c).d,(x:Int),(pkN c).dp⟩ (n9 ha hp2 (by dsimp only;omega) hp4);have HY:Hid (∀x:Nat,poolB d (x:Int)=true->i4 (un Qc (hideS d (i:Int) ls (pkN c) x)) (peerF ls (i:Int) 1) (codeN ⟨d.addr,(pkN c).d,(x:Int),(pkN c).dp⟩)=un Qc (hideS d (i:Int) ls (pkN c) (x+1))):=λx h=>ji h;have HF:Hid (∀x:Nat,poolB d (x:Int)=false->un Qc (hideS d (i:Int) ls (pkN c) (x+1))=un Qc (hideS d (i:Int) ls (pkN c) x)):=λx h=>jh h;have HE:Hid (un Qc (hideS d (i:Int) ls (pkN c) 8)=un Qc (one4 d (i:Int) ls T k [] (q:Int) c)):=by
        rw[hqe]at hw ⊢;exact jj hw
       have VB:V ((u,#[.int .i64 (pkN c).s,.int .i64 (pkN c).d,.int .i64 (pkN c).sp,.int .i64 (pkN c).dp],29)::BX) (un Qc (hideS d (i:Int) ls (pkN c) 0)) wa:=by rw[jg];exact VA
       clear hw hqe VA hp1 hp2 hp3 hp4;generalize hideS d (i:Int) ls (pkN c)=hS at *;generalize one4 d (i:Int) ls T k [] (q:Int) c=R at *;generalize pkN c=pc at *;obtain⟨a,b',c',e'⟩:=pc;dsimp only at *;go_wp2_with fail;go_loopw[23] (λs23 wr=>∃x:Nat,s23=.int .i64 (x:Int)/\x<=8/\V ((u,#[.int .i64 a,.int .i64 b',.int .i64 c',.int .i64 e'],29)::BX) (un Qc (hS x)) wr) (λs23 _=>8-(intOf s23).toNat)
       case atStart=>exact⟨0,rfl,by omega,VB⟩
       case round =>
        clear VB e1;obtain⟨x,rfl,hx,VC⟩:=hrel;obtain⟨e0,e1,e2,e3,_⟩:=BD.out (BT.out VC);by_cases hx8:x<8
        ·have y8:(x:Int)<8:=by omega
         have HAx:=HA.out d.pool (x:Int) wr (by omega);rw[hpool (x:Int) (by omega)]at HAx;have HFx:=Hid.of (HF.out x);have HYx:=Hid.of (HY.out x);have PXx:Hid (∀{bx:f8} {Q:d7} {W:World},V bx Q W->Calls prog 36 #[.int .i64 (i:Int),.int .i64 1,.agg #[.int .i64 d.addr,.int .i64 b',.int .i64 (x:Int),.int .i64 e'],.pointer (some ⟨nb,0,none⟩),.pointer (some ⟨sb,0,none⟩),.pointer (some ⟨kb,0,none⟩),.pointer (some ⟨mb,0,none⟩)] W λe w'=>e=.returned (.tuple #[])/\V bx (i4 Q (peerF ls (i:Int) 1) (codeN ⟨d.addr,b',(x:Int),e'⟩)) w'):=λh=>PX.out x hx8 h;generalize codeN ⟨d.addr,b',(x:Int),e'⟩=cx at *;generalize poolB d (x:Int)=pb at *;cases pb with
         | false =>
           have HFy:=Hid.of (HFx.out rfl);clear HFx HYx PXx;go_wp2_with fail;refine HAx.mono ?_;rintro e w'⟨rfl,rfl⟩;clear HAx;go_wp2_with fail;go_roundw
           case rel=>exact⟨x+1,by go_num,by omega,by rw[HFy.out];exact VC⟩
           case measure=>first|omega|(simp[intOf];omega)|simp[intOf]
         | true =>
           have HYy:=Hid.of (HYx.out rfl);clear HFx HYx;have VD:=H.out.new VC #[.int .i64 a,.int .i64 b',.int .i64 c',.int .i64 e'] 29;have VN:=H.out.new VC #[.int .i64 d.addr,.int .i64 b',.int .i64 (x:Int),.int .i64 e'] 29;obtain⟨x0,x1,x2,x3⟩:=GP.out VC;obtain⟨_,_,f2,_⟩:=BD.out (BT.out (H.out.less VD (bx':=((u,#[.int .i64 a,.int .i64 b',.int .i64 c',.int .i64 e'],29)::BX)) (λy hy=>List.mem_cons_of_mem _ hy)));go_upto_region 40 with(go_at_call 77;refine HAx.mono ?_;rintro e w'⟨rfl,rfl⟩)
           generalize wr.alloc (.cells #[.int .i64 d.addr,.int .i64 b',.int .i64 (x:Int),.int .i64 e'] 29)=wn at *;generalize wr.heap.size=z4 at *;obtain⟨g0,g1,g2,g3⟩:=GP.out VN;clear VC VD HAx x0 x1 x2 x3 f2 e0 e1 e2 e3;go_wp2_with fail;refine(PXx.out VN).mono ?_;rintro e wm⟨rfl,VM⟩;have VZ:=H.out.less VM (bx':=((u,#[.int .i64 a,.int .i64 b',.int .i64 c',.int .i64 e'],29)::BX)) (λy hy=>List.mem_cons_of_mem _ hy);rw[HYy.out]at VZ;clear VN VM g0 g1 g2 g3 PXx;go_wp2_with fail;go_roundw
           case rel=>exact⟨x+1,by go_num,by omega,VZ⟩
           case measure=>first|omega|(simp[intOf];omega)|simp[intOf]
        ·obtain rfl:x=8:=by omega
         have VH:=VC;rw[HE.out]at VH;clear VC HE HF HY PX e0 e1 e2 e3;go_wp2_with fail;go_loopw[25] (λs25 wr=>s25=.int .i64 0/\V ((u,#[.int .i64 a,.int .i64 b',.int .i64 c',.int .i64 e'],29)::BX) (un Qc R) wr) (λ_ _=>0)
         case atStart=>exact⟨rfl,VH⟩
         case round =>
          clear VH;obtain⟨rfl,VZ⟩:=hrel;by_cases hlo:(0:Int)<0
          ·go_wp2_with fail;go_roundw
           case rel=>exact⟨c+1,by go_num,by omega,ST.out _ (H.out.less VZ (λy hy=>List.mem_cons_of_mem _ hy))⟩
           case measure=>first|omega|(simp[intOf];omega)|simp[intOf]
          ·go_wp2_with fail;go_roundw
           case rel=>exact⟨c+1,by go_num,by omega,ST.out _ (H.out.less VZ (λy hy=>List.mem_cons_of_mem _ hy))⟩
           case measure=>first|omega|(simp[intOf];omega)|simp[intOf]
      ·have f0:((q:Int) == 0)=false:=by simp[hqe]
       have f1:((q:Int) == 1)=true:=by simpa using hqe
       have VH:V ((u,#[.int .i64 (pkN c).s,.int .i64 (pkN c).d,.int .i64 (pkN c).sp,.int .i64 (pkN c).dp],29)::BX) (un Qc (one4 d (i:Int) ls T k [] (q:Int) c)) wa:=by
        rw[hqe,oz];exact VA
       clear hw hqe VA hp1 hp2 hp3 hp4;generalize one4 d (i:Int) ls T k [] (q:Int) c=R at *;generalize pkN c=pc at *;obtain⟨a,b',c',e'⟩:=pc;dsimp only at *;go_wp2_with fail;go_loopw[23] (λs23 wr=>s23=.int .i64 0/\V ((u,#[.int .i64 a,.int .i64 b',.int .i64 c',.int .i64 e'],29)::BX) (un Qc R) wr) (λ_ _=>0)
       case atStart=>exact⟨rfl,VH⟩
       case round =>
        clear VH e1;obtain⟨rfl,VH⟩:=hrel;go_wp2_with fail;go_loopw[25] (λs25 wr=>s25=.int .i64 0/\V ((u,#[.int .i64 a,.int .i64 b',.int .i64 c',.int .i64 e'],29)::BX) (un Qc R) wr) (λ_ _=>0)
        case atStart=>exact⟨rfl,VH⟩
        case round =>
         clear VH;obtain⟨rfl,VZ⟩:=hrel;go_wp2_with fail;go_roundw
         case rel=>exact⟨c+1,by go_num,by omega,ST.out _ (H.out.less VZ (λy hy=>List.mem_cons_of_mem _ hy))⟩
         case measure=>first|omega|(simp[intOf];omega)|simp[intOf]
end Go.Proofs.YtppbfikimalojaaGreat
