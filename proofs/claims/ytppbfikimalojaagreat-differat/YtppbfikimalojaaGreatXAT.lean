/-
  XAT.
-/
import Derived.Test.YtppbfikimalojaaGreatXAS
import Derived.Test.YtppbfikimalojaaGreatXLy
import Derived.Test.YtppbfikimalojaaGreatXAA
import Derived.Test.YtppbfikimalojaaGreatXAP
import Derived.Test.YtppbfikimalojaaGreatXAQ
import Derived.Test.YtppbfikimalojaaGreatXAN
import Derived.Maps.RangeWalk
import Derived.Test.YtppbfikimalojaaGreatXAC
import Derived.Test.YtppbfikimalojaaGreatXAE
import Derived.Test.YtppbfikimalojaaGreatXAL
import Derived.Test.YtppbfikimalojaaGreatXAF
set_option maxHeartbeats 8000000
set_option maxRecDepth 100000
namespace Go.Proofs.YtppbfikimalojaaGreat
open Tryz
open Go.RowKit
theorem sk(nm:ByteArray)(ad:Int)(pl:Nat)(Ab Ar At:Option Addr)(bs:List Int)(cb nr cr nt ct:Nat)(c:Int)(w:World)(hcap:bs.length<=cb)(hmax:cb<=maxLen)(hB:Hid (SlAt w.heap.size w 1 IsI (.slice Ab bs.length cb) bs))
  (RT:Hid (∀W,Below w.heap.size w W->Calls prog 71 #[.slice At nt ct] W λe w'=>e=.returned (.int .i64 c)/\Below W.heap.size W w')) :
  Calls prog 33 #[.agg #[.string nm,.int .i64 5,.int .i64 ad,.int .u8 (pl:Int),.slice Ab bs.length cb,.slice Ar nr cr,.slice At nt ct]] w λe w'=>e=.returned (.int .i64 (if(!(decide (0<=ad)&&decide (ad<=15)))||(decide (0<pl) != false)then 1 else if 3<bs.length then 2 else if bs.length=0 then 1 else if j8 bs ad 0=1 then 1 else if(decide (0<nr))||(decide (0<nt))then 1 else c))/\Below w.heap.size w w':=by
 unfold maxLen at hmax;have D0:=Below.alN (Below.refl w.heap.size w) (.cells #[.string nm,.int .i64 5,.int .i64 ad,.int .u8 (pl:Int),.slice Ab bs.length cb,.slice Ar nr cr,.slice At nt ct] 56);have I0:Hid (∀w,Calls prog 8 #[.int .i64 5,.int .i64 1,.int .i64 5] w λe w'=>e=.returned (.bool true)/\w'=w):=λw=>inN 5 1 5 w;have V0:=aL w (.string nm) (.int .i64 5) (.int .i64 ad) (.int .u8 (pl:Int)) (.slice Ab bs.length cb) (.slice Ar nr cr) (.slice At nt ct) 56;have I1:Hid (∀w,Calls prog 8 #[.int .i64 ad,.int .i64 0,.int .i64 15] w λe w'=>e=.returned (.bool (decide (0<=ad)&&decide (ad<=15)))/\w'=w):=λw=>inN ad 0 15 w;obtain⟨_,q0,q1,q2,q3,q4,q5,q6⟩:=id V0;generalize (decide (0<=ad)&&decide (ad<=15))=x0 at *;cases x0
 ·go_enter func33,ntmps33;go_wp2_with (first|(go_at_call_of 8 (Value.int .i64 5);refine(I0.out _).mono ?_;rintro e w'⟨rfl,rfl⟩)|(go_at_call_of 8 (Value.int .i64 ad);refine(I1.out _).mono ?_;rintro e w'⟨rfl,rfl⟩));go_ret;first|exact⟨rfl,D0⟩|exact⟨by simp,D0⟩
 cases p0:decide (0<pl)
 ·have p1:decide ((0:Int)<(pl:Int))=false:=by rw[<- p0];simp
  by_cases n3:3<bs.length
  ·have u3:decide ((3:Int)<(bs.length:Int))=true:=by simp;omega
   go_enter func33,ntmps33;go_wp2_with (first|(go_at_call_of 8 (Value.int .i64 5);refine(I0.out _).mono ?_;rintro e w'⟨rfl,rfl⟩)|(go_at_call_of 8 (Value.int .i64 ad);refine(I1.out _).mono ?_;rintro e w'⟨rfl,rfl⟩));go_ret;first|exact⟨rfl,D0⟩|exact⟨by simp,D0⟩
  have u3:decide ((3:Int)<(bs.length:Int))=false:=by simp;omega
  by_cases n0:bs.length=0
  ·have e:=List.length_eq_zero_iff.1 n0;subst e;clear n0 n3 u3;go_enter func33,ntmps33;go_wp2_with (first|(go_at_call_of 8 (Value.int .i64 5);refine(I0.out _).mono ?_;rintro e w'⟨rfl,rfl⟩)|(go_at_call_of 8 (Value.int .i64 ad);refine(I1.out _).mono ?_;rintro e w'⟨rfl,rfl⟩));go_ret;first|exact⟨rfl,D0⟩|exact⟨by simp,D0⟩
  have u0:((bs.length:Int) == 0)=false:=by simp;exact λe=>n0 (by rw[e];rfl)
  have FIN:Hid ((if(!true)||(false != false)then(1:Int)else if 3<bs.length then 2 else if bs.length=0 then 1 else if j8 bs ad 0=1 then 1 else if(decide (0<nr))||(decide (0<nt))then 1 else c)=if j8 bs ad 0=1 then 1 else if(decide (0<nr))||(decide (0<nt))then 1 else c):=by
   show _=_;rw[if_neg (by simp),if_neg n3,if_neg n0]
  rw[FIN.out];clear FIN n3 n0;generalize hres:(if j8 bs ad 0=1 then(1:Int)else if(decide (0<nr))||(decide (0<nt))then 1 else c)=res;have HR:Hid (res=if j8 bs ad 0=1 then(1:Int)else if(decide (0<nr))||(decide (0<nt))then 1 else c):=hres.symm;clear hres;go_enter func33,ntmps33;go_wp2_with (first|(go_at_call_of 8 (Value.int .i64 5);refine(I0.out _).mono ?_;rintro e w'⟨rfl,rfl⟩)|(go_at_call_of 8 (Value.int .i64 ad);refine(I1.out _).mono ?_;rintro e w'⟨rfl,rfl⟩));clear I0 I1;go_loopw[4] (λi wr=>∃k:Nat,i=.int .i64 (k:Int)/\k<=bs.length/\Below w.heap.size w wr/\Seven wr w.heap.size (.string nm) (.int .i64 5) (.int .i64 ad) (.int .u8 (pl:Int)) (.slice Ab bs.length cb) (.slice Ar nr cr) (.slice At nt ct)/\Hid (j8 bs ad 0=j8 bs ad k)) (λi _=>bs.length-(intOf i).toNat)
  case atStart=>exact⟨0,rfl,by omega,D0,V0,rfl⟩
  case round =>
   clear D0 V0 q0 q1 q2 q3 q4 q5 q6;obtain⟨k,rfl,hk,D1,V1,hl⟩:=hrel;obtain⟨lV,q0,q1,q2,q3,q4,q5,q6⟩:=id V1;by_cases hlt:k<bs.length
   ·obtain⟨x,hxk⟩:∃x,bs[k]?=some x:=⟨_,List.getElem?_eq_getElem hlt⟩;obtain⟨b,o,rfl,hb,hcell⟩:=Ints.at (SlAt.below hB.out D1 (λ_ _ _ h=>h)) hxk;have cx:=hcell k x hxk;have IX:Hid (∀w,Calls prog 8 #[.int .i64 x,.int .i64 0,.int .i64 15] w λe w'=>e=.returned (.bool (decide (0<=x)&&decide (x<=15)))/\w'=w):=λw=>inN x 0 15 w;have Hd:Hid (j8 bs ad k=if(decide (0<=x)&&decide (x<=15))&&!(x == ad)&&!((bs.take k).any (λy=>y == x))then j8 bs ad (k+1)else 1):=fG hxk;have k1:(0:Int)<=(k:Int):=by omega
    have k2:(k:Int)<(bs.length:Int):=by omega
    have HC:Hid (∀j y,bs[j]?=some y->wr.cell? ⟨b,o+j,none⟩=some (.int .i64 y)):=hcell;have HX:Hid (bs[k]?=some x):=hxk;clear hcell hxk;generalize (decide (0<=x)&&decide (x<=15))=y0 at *;cases y0
    ·have hb1:Hid (res=1):=by show _=_;rw[HR.out,hl.out,Hd.out];simp
     clear HR Hd hl;go_wp2_with fail
     go_quiet ((go_at_call 8;exact Calls.quiet_of_same (IX.out _)))
     go_wp2_with fail;go_ret;exact⟨by rw[hb1.out];rfl,I7 D1 _⟩
    cases y1:(x == ad)
    ·go_wp2_with fail
     go_quiet ((go_at_call 8;exact Calls.quiet_of_same (IX.out _)))
     go_wp2_with fail;go_loopw[5] (λi wr=>∃j:Nat,i=.int .i64 (j:Int)/\j<=k/\Below w.heap.size w wr/\Seven wr w.heap.size (.string nm) (.int .i64 5) (.int .i64 ad) (.int .u8 (pl:Int)) (.slice (some ⟨b,o,none⟩) bs.length cb) (.slice Ar nr cr) (.slice At nt ct)/\Hid ((bs.take j).any (λy=>y == x)=false)) (λi _=>k-(intOf i).toNat)
     case atStart=>exact⟨0,rfl,by omega,I7 D1 _,V1.below (I7 (Below.refl wr.heap.size wr) _) lV,rfl⟩
     case round =>
      clear D1 V1 q0 q1 q2 q3 q4 q5 q6 cx HC lV;obtain⟨j,rfl,hj,D1,V1,hno⟩:=hrel;obtain⟨lV,q0,q1,q2,q3,q4,q5,q6⟩:=id V1;by_cases hjk:j<k
      ·obtain⟨y,hyj⟩:∃y,bs[j]?=some y:=⟨_,List.getElem?_eq_getElem (by omega)⟩;obtain⟨b',o',e',_,hcell⟩:=Ints.at (SlAt.below hB.out D1 (λ_ _ _ h=>h)) hyj;cases e';have cx:=hcell k x HX.out;have cy:=hcell j y hyj;have j1:(0:Int)<=(j:Int):=by omega
       have j2:(j:Int)<(bs.length:Int):=by omega
       cases z0:(y == x)
       ·have Hn:Hid ((bs.take (j+1)).any (λz=>z == x)=false):=by show _=_;rw[kZ hyj,hno.out,z0];rfl
        clear hcell hyj hno;go_wp2_with fail
        go_quiet (fail)
        go_wp2_with fail;go_roundw
        case rel=>exact⟨j+1,by go_num,by omega,I7 D1 _,V1.below (I7 (Below.refl wr.heap.size wr) _) lV,Hn⟩
        case measure=>simp[intOf];omega
       ·have hany:(bs.take k).any (λz=>z == x)=true:=List.any_eq_true.2 ⟨y,List.mem_of_getElem? (i:=j) (by rw[List.getElem?_take,if_pos hjk];exact hyj),z0⟩;have hb1:Hid (res=1):=by show _=_;rw[HR.out,hl.out,Hd.out,y1,hany];simp
        clear HR Hd hl hcell hyj hno hany;go_wp2_with fail
        go_quiet (fail)
        go_wp2_with fail;go_ret;exact⟨by rw[hb1.out];rfl,I7 D1 _⟩
      ·obtain rfl:j=k:=by omega
       have Hn:Hid (j8 bs ad 0=j8 bs ad (j+1)):=by show _=_;rw[hl.out,Hd.out,y1,hno.out];simp
       clear hl Hd hno;go_wp2_with fail;go_roundw
       case rel=>exact⟨j+1,by go_num,by omega,D1,V1,Hn⟩
       case measure=>simp[intOf];omega
    ·have hb1:Hid (res=1):=by show _=_;rw[HR.out,hl.out,Hd.out,y1];simp
     clear HR Hd hl;go_wp2_with fail
     go_quiet ((go_at_call 8;exact Calls.quiet_of_same (IX.out _)))
     go_wp2_with fail;go_ret;exact⟨by rw[hb1.out];rfl,I7 D1 _⟩
   ·have h0:j8 bs ad 0=0:=by rw[hl.out,dQ (by omega)]
    clear hl;by_cases r0:0<nr
    ·have v0:decide ((0:Int)<(nr:Int))=true:=by simp;omega
     have hb1:Hid (res=1):=by show _=_;rw[HR.out,h0];simp[r0]
     clear HR h0;go_wp2_with fail;go_ret;exact⟨by rw[hb1.out];rfl,D1⟩
    have v0:decide ((0:Int)<(nr:Int))=false:=by simp;omega
    by_cases t0:0<nt
    ·have z0:decide ((0:Int)<(nt:Int))=true:=by simp;omega
     have hb1:Hid (res=1):=by show _=_;rw[HR.out,h0];simp[t0]
     clear HR h0;go_wp2_with fail;go_ret;exact⟨by rw[hb1.out];rfl,D1⟩
    have z0:decide ((0:Int)<(nt:Int))=false:=by simp;omega
    have r8:¬ 8<nr:=by omega
    have v8:decide ((8:Int)<(nr:Int))=false:=by simp;omega
    have hb1:Hid (res=c):=by show _=_;rw[HR.out,h0];simp[r0,t0]
    clear HR h0;go_wp2_with fail;refine(RT.out _ D1).mono ?_;rintro e w2⟨rfl,hb2⟩;have D2:=f7 hb2 D1;go_wp2_with fail;go_ret;exact⟨by rw[hb1.out];rfl,D2⟩
 ·have p1:decide ((0:Int)<(pl:Int))=true:=by rw[<- p0];simp
  go_enter func33,ntmps33;go_wp2_with (first|(go_at_call_of 8 (Value.int .i64 5);refine(I0.out _).mono ?_;rintro e w'⟨rfl,rfl⟩)|(go_at_call_of 8 (Value.int .i64 ad);refine(I1.out _).mono ?_;rintro e w'⟨rfl,rfl⟩));go_ret;first|exact⟨rfl,D0⟩|exact⟨by simp,D0⟩
theorem rdev_none(nm:ByteArray)(k ad:Int)(pl:Nat)(vb vr vt:Value)(w:World)(h:¬(1<=k/\k<=5)) :
  Calls prog 33 #[.agg #[.string nm,.int .i64 k,.int .i64 ad,.int .u8 (pl:Int),vb,vr,vt]] w λe w'=>e=.returned (.int .i64 1)/\Below w.heap.size w w':=by
 have D0:=Below.alN (Below.refl w.heap.size w) (.cells #[.string nm,.int .i64 k,.int .i64 ad,.int .u8 (pl:Int),vb,vr,vt] 56);have I0:Hid (∀w,Calls prog 8 #[.int .i64 k,.int .i64 1,.int .i64 5] w λe w'=>e=.returned (.bool false)/\w'=w):=λw=>by
  have:=inN k 1 5 w;rw[show(decide (1<=k)&&decide (k<=5))=false by
   rw[Bool.eq_false_iff];simp only[ne_eq,Bool.and_eq_true,decide_eq_true_eq];exact h]at this
  exact this
 clear h;go_enter func33,ntmps33;go_wp2_with (go_at_call 8;refine(I0.out _).mono ?_;rintro e w'⟨rfl,rfl⟩);go_ret;exact⟨rfl,D0⟩
theorem rdevice_any(d:Dv)(vb vr vt:Value)(c:Int)(w:World)(hb:SlAt w.heap.size w 1 IsI vb d.backs)(hr:SlAt w.heap.size w 5 A9 vr d.rules)(ht:SlAt w.heap.size w 3 C7 vt d.routes)
  (RT:Hid (∀W,Below w.heap.size w W->Calls prog 71 #[vt] W λe w'=>e=.returned (.int .i64 c)/\Below W.heap.size W w')) :
  Calls prog 33 #[.agg #[.string d.name,.int .i64 d.kind,.int .i64 d.addr,.int .u8 (d.pool:Int),vb,vr,vt]] w λe w'=>e=.returned (.int .i64 (P9 d.kind d.addr d.pool d.backs d.rules.length d.routes.length c))/\Below w.heap.size w w':=by
 obtain⟨nm,k,ad,pl,bs,rs,ts,_,_⟩:=d;simp only at hb hr ht ⊢;have hb0:=hb;obtain⟨Ab,cb,rfl,_,b1,b2,_⟩:=hb;obtain⟨Ar,cr,rfl,_,_,_,_⟩:=hr;obtain⟨At,ct,rfl,_,_,_,_⟩:=ht;by_cases hk:1<=k/\k<=5
 ·have e0:(decide (1<=k)&&decide (k<=5))=true:=by simp[hk]
  have hkk:k=1\/k=2\/k=3\/k=4\/k=5:=by omega
  have nil:bs.length=0->j8 bs ad 0=0:=λh=>dQ (by omega);rcases hkk with rfl|rfl|rfl|rfl|rfl
  ·refine(qm nm ad pl Ab Ar At bs.length cb rs.length cr ts.length ct c w RT).mono λe w' ⟨e1,e2⟩=>⟨?_,e2⟩;rw[e1]
   congr 2
   unfold P9 hasAddr;by_cases n0:bs.length=0
   ·simp[n0,nil n0]
   ·simp[n0,Nat.pos_of_ne_zero n0]
  ·refine(rdev_2 nm ad pl Ab Ar At bs.length cb rs.length cr ts.length ct c w RT).mono λe w' ⟨e1,e2⟩=>⟨?_,e2⟩;rw[e1]
   congr 2
   unfold P9 hasAddr;by_cases n0:bs.length=0
   ·simp[n0,nil n0]
   ·simp[n0,Nat.pos_of_ne_zero n0]
  ·refine(rdev_3 nm ad pl Ab Ar At bs.length cb rs.length cr ts.length ct c w RT).mono λe w' ⟨e1,e2⟩=>⟨?_,e2⟩;rw[e1]
   congr 2
   unfold P9 hasAddr;by_cases n0:bs.length=0
   ·simp[n0,nil n0]
   ·simp[n0,Nat.pos_of_ne_zero n0]
  ·refine(rdev_4 nm ad pl Ab Ar At bs.length cb rs.length cr ts.length ct c w RT).mono λe w' ⟨e1,e2⟩=>⟨?_,e2⟩;rw[e1]
   congr 2
   unfold P9 hasAddr;by_cases n0:bs.length=0
   ·simp[n0,nil n0]
   ·simp[n0,Nat.pos_of_ne_zero n0]
  ·refine(sk nm ad pl Ab Ar At bs cb rs.length cr ts.length ct c w b1 b2 hb0 RT).mono λe w' ⟨e1,e2⟩=>⟨?_,e2⟩;rw[e1]
   congr 2
   unfold P9 hasAddr;by_cases r8:8<rs.length
   ·simp[Nat.lt_trans (show 0<8 by omega) r8]
   ·simp[r8]
 ·refine(rdev_none nm k ad pl _ _ _ w hk).mono λe w' ⟨e1,e2⟩=>⟨?_,e2⟩;rw[e1];unfold P9;rw[if_pos];rw[Bool.not_eq_true',Bool.eq_false_iff];simp only[ne_eq,Bool.and_eq_true,decide_eq_true_eq];exact hk
def endsL(ls:List Lk):List (Int × Int):=ls.flatMap λl=>[(l.a,l.p),(l.b,l.q)]
theorem so(ls:List Lk)(l:Lk):endsL (ls++[l])=endsL ls++[(l.a,l.p),(l.b,l.q)]:=by simp[endsL]
theorem sq{ls:List Lk}{k:Nat}{l:Lk}(h:ls[k]?=some l):endsL (ls.take (k+1))=endsL (ls.take k)++[(l.a,l.p),(l.b,l.q)]:=by
 obtain⟨hk,e⟩:=List.getElem?_eq_some_iff.1 h;rw[List.take_succ_eq_append_getElem hk,e,so]
theorem kc:∀ls:List Lk,(endsL ls).length=2*ls.length
 | []=>rfl
 | l::ls=>by
   have:=kc ls;show(endsL ls).length+1+1=_;rw[this,List.length_cons];omega
theorem aY(a b:Int):(a == b)=(b == a):=by rw[Bool.eq_iff_iff];simp;exact eq_comm
theorem ke(l:Lk):∀ls:List Lk,(hasP (endsL ls) (l.a,l.p)||hasP (endsL ls) (l.b,l.q))=ls.any (λm=>meetB m l)
 | []=>rfl
 | m::ls=>by
   have ih:=ke l ls;unfold hasP at ih ⊢;rw[show endsL (m::ls)=(m.a,m.p)::(m.b,m.q)::endsL ls from rfl,List.any_cons,List.any_cons,List.any_cons,List.any_cons,List.any_cons,<- ih];unfold meetB;rw[aY l.a m.a,aY l.p m.p,aY l.b m.a,aY l.q m.p,aY l.a m.b,aY l.p m.q,aY l.b m.b,aY l.q m.q];generalize ((m.a == l.a)&&(m.p == l.p))=x1;generalize ((m.a == l.b)&&(m.p == l.q))=x2;generalize ((m.b == l.a)&&(m.q == l.p))=x3;generalize ((m.b == l.b)&&(m.q == l.q))=x4;generalize (endsL ls).any (λx=>((l.a,l.p):Int × Int).1 == x.1&&((l.a,l.p):Int × Int).2 == x.2)=x5;generalize (endsL ls).any (λx=>((l.b,l.q):Int × Int).1 == x.1&&((l.b,l.q):Int × Int).2 == x.2)=x6;cases x1 <;> cases x2 <;> cases x3 <;> cases x4 <;> cases x5 <;> cases x6 <;> rfl
theorem gI{W W':World}{B e size n:Nat}{v:Value}{xs:List Value}(h:W.ownsRow B e size v n xs)(hb:Below W.heap.size W W'):W'.ownsRow B e size v n xs:=by
 obtain⟨hl,hc⟩:=h;refine⟨hl,?_⟩;rcases hc with h0|⟨g,cap,cur,rfl,hbg,hg,rest⟩
 ·exact .inl h0
 ·exact .inr ⟨g,cap,cur,rfl,hbg,(hb.block g (Array.getElem?_eq_some_iff.1 hg).1).trans hg,rest⟩
theorem ss{ds:List Dv}{d p:Int}:isPl ds d p=((decide (0<=d)&&decide (d<=(ds.length:Int)-1))&&(decide (0<=p)&&decide (p<=portsV (k9 ds d)-1))):=by
 unfold isPl;rw[show decide (d<=(ds.length:Int)-1)=decide (d<(ds.length:Int)) by rw[decide_eq_decide];omega,show decide (p<=portsV (k9 ds d)-1)=decide (p<portsV (k9 ds d)) by rw[decide_eq_decide];omega,Bool.and_assoc (decide (0<=d)&&decide (d<(ds.length:Int)))]
theorem sv(s:ByteArray):nameOk s=((decide ((1:Int)<=(s.size:Int))&&decide ((s.size:Int)<=8))&&(s.data.toList.drop 0).all C0):=by
 unfold nameOk;rw[show decide ((1:Int)<=(s.size:Int))=decide (1<=s.size) by rw[decide_eq_decide];omega,show decide ((s.size:Int)<=8)=decide (s.size<=8) by rw[decide_eq_decide];omega];rfl
def EndS(w W:World)(n1:Nat)(v1 v2:Value)(a b c d:Value)(u:Value)(es:List (Int × Int)):Prop :=
 Below w.heap.size w W/\w.heap.size+1<=W.heap.size/\Box2 W w.heap.size v1 v2/\Lk4 W n1 a b c d/\W.ownsRow (w.heap.size+1) 97 2 u es.length (H4 es)
theorem EndS.keep{w W W':World}{n1:Nat}{v1 v2 a b c d u:Value}{es:List (Int × Int)}(h:EndS w W n1 v1 v2 a b c d u es)(hb:Below W.heap.size W W'):EndS w W' n1 v1 v2 a b c d u es :=
 ⟨f7 hb h.1,Nat.le_trans h.2.1 hb.size,h.2.2.1.below hb h.2.2.1.1,h.2.2.2.1.below hb h.2.2.2.1.1,gI h.2.2.2.2 hb⟩
theorem EndS.drewN{w W:World}{n1:Nat}{v1 v2 a b c d u:Value}{es:List (Int × Int)}(h:EndS w W n1 v1 v2 a b c d u es)(n:Nat):EndS w (W.drewN n) n1 v1 v2 a b c d u es:=h.keep (I7 (Below.refl _ _) n)
theorem EndS.drew{w W:World}{n1:Nat}{v1 v2 a b c d u:Value}{es:List (Int × Int)}(h:EndS w W n1 v1 v2 a b c d u es):EndS w W.drew n1 v1 v2 a b c d u es:=h.keep (Below.refl _ _).drew
theorem EndS.cells{w W:World}{n1:Nat}{v1 v2 a b c d u:Value}{es:List (Int × Int)}(h:EndS w W n1 v1 v2 a b c d u es):W.cell? ⟨n1,0,none⟩=some a/\W.cell? ⟨n1,1,none⟩=some b/\W.cell? ⟨n1,2,none⟩=some c/\W.cell? ⟨n1,3,none⟩=some d:=h.2.2.2.1.2
theorem EndS.below{w W:World}{n1:Nat}{v1 v2 a b c d u:Value}{es:List (Int × Int)}(h:EndS w W n1 v1 v2 a b c d u es):Below w.heap.size w W:=h.1
theorem sC(A B:Option Addr)(cap d8:Nat)(ds:List Dv)(ls:List Lk)(res:Int)(w:World)(hD:Hid (Devs w.heap.size w (.slice A ds.length cap) ds))(hL:Hid (Links w.heap.size w (.slice B ls.length d8) ls))(h10:ds.length<=10)(h15:ls.length<=15)(HR:Hid (res=if m9 ds 0=0 then o9 ds ls 0 else m9 ds 0)) :
  Calls prog 7 #[.agg #[.slice A ds.length cap,.slice B ls.length d8]] w λe w'=>e=.returned (.int .i64 res)/\Below w.heap.size w w':=by
 obtain⟨_,hc,hm⟩:=hD.out.len;obtain⟨_,hc',hm'⟩:=hL.out.len;unfold maxLen at hm hm';have t10:decide ((10:Int)<(ds.length:Int))=false:=by simp;omega
 have t15:decide ((15:Int)<(ls.length:Int))=false:=by simp;omega
 have D0:=Below.alN (Below.refl w.heap.size w) (.cells #[.slice A ds.length cap,.slice B ls.length d8] 25);have B0:=T7 w (.slice A ds.length cap) (.slice B ls.length d8) 25;go_enter func7,ntmps7;go_wp2_with fail;go_loopw[3] (λi wr=>∃k:Nat,i=.int .i64 (k:Int)/\k<=ds.length/\Below w.heap.size w wr/\Box2 wr w.heap.size (.slice A ds.length cap) (.slice B ls.length d8)/\Hid (m9 ds 0=m9 ds k)) (λi _=>ds.length-(intOf i).toNat)
 case atStart=>exact⟨0,rfl,by omega,D0,B0,rfl⟩
 case round =>
  clear D0 B0;obtain⟨k,rfl,hk,D1,B1,hl⟩:=hrel;obtain⟨_,b0,b1,_⟩:=id B1;by_cases hlt:k<ds.length
  ·obtain⟨d,hxk⟩:∃d,ds[k]?=some d:=⟨_,List.getElem?_eq_getElem hlt⟩;obtain⟨b,o,vb,vr,vt,rfl,hb,z1,z2,z3,c0,c1,c2,c3,c4,c5,c6⟩:=(hD.out.below D1).at hxk;have y1:=z1;have y2:=z2;have y3:=z3;obtain⟨Ab,cb,rfl,_,_,_,_⟩:=z1;obtain⟨Ar,cr,rfl,_,_,_,_⟩:=z2;obtain⟨At,ct,rfl,_,_,_,_⟩:=z3;have HF:Hid (m9 ds k=if C8 ds k d=0 then m9 ds (k+1)else C8 ds k d):=cX hxk;have HW:Hid (C8 ds k d=if nameOk d.name then(if(ds.take k).any (λx=>x.name.toList == d.name.toList)then 5 else devC d)else 3):=rfl;have HNM:Hid (∀j x,ds[j]?=some x->∀W,Below w.heap.size w W->W.cell? ⟨b,o+j*7,none⟩=some (.string x.name)):=λj x hx W h=>by
    obtain⟨b',o',_,_,_,e,_,_,_,_,q,_⟩:=(hD.out.below h).at hx;cases e;exact q
   have CD:Hid (∀W,Below w.heap.size w W->Calls prog 33 #[F9 d.name d.kind d.addr d.pool (.slice Ab d.backs.length cb) (.slice Ar d.rules.length cr) (.slice At d.routes.length ct)] W λe w'=>e=.returned (.int .i64 (devC d))/\Below W.heap.size W w'):=λW h=>by
    have hd:=hD.out.below h;obtain⟨b',o',vb',vr',vt',e1,_,s1,s2,s3,q0,q1,q2,q3,q4,q5,q6⟩:=hd.at hxk;cases e1;have g4:=(D1.cell (p:=⟨b,o+k*7+4,none⟩) hb).symm.trans c4;have g5:=(D1.cell (p:=⟨b,o+k*7+5,none⟩) hb).symm.trans c5;have g6:=(D1.cell (p:=⟨b,o+k*7+6,none⟩) hb).symm.trans c6;have f4:=(h.cell (p:=⟨b,o+k*7+4,none⟩) hb).symm.trans q4;have f5:=(h.cell (p:=⟨b,o+k*7+5,none⟩) hb).symm.trans q5;have f6:=(h.cell (p:=⟨b,o+k*7+6,none⟩) hb).symm.trans q6;obtain rfl:=Option.some.inj (g4.symm.trans f4);obtain rfl:=Option.some.inj (g5.symm.trans f5);obtain rfl:=Option.some.inj (g6.symm.trans f6);have t1:=SlAt.mono s1 h.size (λ_ _ _ h=>h);have t2:=SlAt.mono s2 h.size (λ_ _ _ h=>h);have t3:=SlAt.mono s3 h.size (λ_ _ _ h=>h);exact rdevice_any d _ _ _ (checkV (d.routes.map rtOf)) W t1 t2 t3 (λW' h'=>rI W' (fL (SlAt.mono (SlAt.below t3 h' (λ_ _ _ h=>h)) h'.size (λ_ _ _ h=>h))))
   have IN:Hid (∀w,Calls prog 8 #[.int .i64 (d.name.size:Int),.int .i64 1,.int .i64 8] w λe w'=>e=.returned (.bool (decide (1<=(d.name.size:Int))&&decide ((d.name.size:Int)<=8)))/\w'=w):=λw=>inN _ 1 8 w;have HS:Hid (((decide ((1:Int)<=(d.name.size:Int))&&decide ((d.name.size:Int)<=8))&&(d.name.data.toList.drop 0).all C0)=nameOk d.name):=(sv d.name).symm;have hsz:=d.hs;unfold maxLen at hsz;have k1:(0:Int)<=(k:Int):=by omega
   have k2:(k:Int)<(ds.length:Int):=by omega
   have lw:=D1.size;have HX:Hid (ds[k]?=some d):=hxk;clear hxk y1 y2 y3;generalize devC d=dc at *;generalize hnm:d.name=nm at *;have Hnm:Hid (d.name=nm):=hnm;clear hnm;generalize (decide (1<=(nm.size:Int))&&decide ((nm.size:Int)<=8))=sx at *;generalize d.backs.length=nb at *;generalize d.rules.length=nr at *;generalize d.routes.length=nt at *;generalize d.kind=kd at *;generalize d.addr=ad at *;generalize d.pool=pl at *;have D2:=Below.alN D1 (.cells #[.string nm,.int .i64 kd,.int .i64 ad,.int .u8 (pl:Int),.slice Ab nb cb,.slice Ar nr cr,.slice At nt ct] 56);have B2:=B1.alloc (.cells #[.string nm,.int .i64 kd,.int .i64 ad,.int .u8 (pl:Int),.slice Ab nb cb,.slice Ar nr cr,.slice At nt ct] 56);have V2:=aL wr (.string nm) (.int .i64 kd) (.int .i64 ad) (.int .u8 (pl:Int)) (.slice Ab nb cb) (.slice Ar nr cr) (.slice At nt ct) 56;obtain⟨_,v0,v1,v2,v3,v4,v5,v6⟩:=id V2;generalize hno:nameOk nm=nok at *;have Hno:Hid (nameOk nm=nok):=hno;clear hno;go_wp2_with fail;refine(IN.out _).mono ?_;rintro e w2⟨rfl,rfl⟩;clear c0 c1 c2 c3 c4 c5 c6 IN;go_wp2_with fail
   go_loop [5,6] (λx j=>∃(y:Bool) (i:Nat),x=.bool y/\j=.int .i64 (i:Int)/\i<=nm.size/\Hid ((y&&(nm.data.toList.drop i).all C0)=nok)) (λ_ j=>nm.size-(intOf j).toNat)
   case atStart=>exact⟨sx,0,rfl,rfl,by omega,HS⟩
   case round =>
    clear HS;obtain⟨y,i,rfl,rfl,hi,hd⟩:=hrel;by_cases hil:i<nm.size
    ·have HA:Hid ((nm.data.toList.drop i).all C0=(C0 nm[i]&&(nm.data.toList.drop (i+1)).all C0)):=lv nm i hil;have HN:Hid (C0 nm[i]=((decide (97<=(nm[i].toNat:Int))&&decide ((nm[i].toNat:Int)<=122))||(decide (48<=(nm[i].toNat:Int))&&decide ((nm[i].toNat:Int)<=57)))):=rfl;cases y
     ·have HV:Hid ((false&&(nm.data.toList.drop (i+1)).all C0)=nok):=hd;clear hd HA HN;go_wp2_with fail
      go_round
      case rel=>exact⟨false,i+1,rfl,congrArg (Value.int .i64) (by omega),by omega,HV⟩
      case measure=>simp[intOf];omega
     ·cases a1:decide (97<=(nm[i].toNat:Int)) <;> cases a2:decide ((nm[i].toNat:Int)<=122) <;> cases a3:decide (48<=(nm[i].toNat:Int)) <;> cases a4:decide ((nm[i].toNat:Int)<=57)
      all_goals
       rw[a1,a2,a3,a4]at HN;first
        | (have HV : Hid ((true && (nm.data.toList.drop (i + 1)).all C0   ) = nok) := by
            show _=_;rw[<- hd.out,HA.out,HN.out];rfl
           clear HN HA hd;go_wp2_with fail
           go_round
           case rel=>exact⟨true,i+1,rfl,congrArg (Value.int .i64) (by omega),by omega,HV⟩
           case measure=>simp[intOf];omega)
        | (have HV : Hid ((false && (nm.data.toList.drop (i + 1)).all C0   ) = nok) := by
            show _=_;rw[<- hd.out,HA.out,HN.out];rfl
           clear HN HA hd;go_wp2_with fail
           go_round
           case rel=>exact⟨false,i+1,rfl,congrArg (Value.int .i64) (by omega),by omega,HV⟩
           case measure=>simp[intOf];omega)
    ·have HY:Hid (y=nok):=by
      show _=_;rw[<- hd.out,List.drop_eq_nil_of_le (by rw[<- Lib.size_eq];omega)];simp
     clear hd;cases y
     ·have HV:Hid (res=3):=by
       have e:C8 ds k d=3:=by rw[HW.out,<- HY.out];rfl
       show _=_;rw[HR.out,hl.out,HF.out,e];rfl
      go_wp2_with fail;go_ret;exact⟨by rw[HV.out];rfl,D2⟩
     ·have HW2:Hid (C8 ds k d=if(ds.take k).any (λx=>x.name.toList == nm.toList)then 5 else dc):=by
       show _=_;rw[HW.out,<- HY.out];rfl
      clear HW HY;go_wp2_with fail;go_loopw[8] (λj wr'=>∃i:Nat,j=.int .i64 (i:Int)/\i<=k/\Below w.heap.size w wr'/\Box2 wr' w.heap.size (.slice (some ⟨b,o,none⟩) ds.length cap) (.slice B ls.length d8)/\Seven wr' wr.heap.size (.string nm) (.int .i64 kd) (.int .i64 ad) (.int .u8 (pl:Int)) (.slice Ab nb cb) (.slice Ar nr cr) (.slice At nt ct)/\Hid ((ds.take i).any (λx=>x.name.toList == nm.toList)=false)) (λj _=>k-(intOf j).toNat)
      case atStart=>exact⟨0,rfl,by omega,D2,B2,V2,rfl⟩
      case round =>
       clear D2 B2 V2 v0 v1 v2 v3 v4 v5 v6 b0 b1 B1;obtain⟨i,rfl,hik,D3,B3,V3,hno⟩:=hrel;obtain⟨_,b0,b1,_⟩:=id B3;obtain⟨_,v0,v1,v2,v3,v4,v5,v6⟩:=id V3;by_cases hij:i<k
       ·obtain⟨x,hx⟩:∃x,ds[i]?=some x:=⟨_,List.getElem?_eq_getElem (by omega)⟩;have cn:=HNM.out i x hx _ D3;have HT:Hid ((ds.take (i+1)).any (λx=>x.name.toList == nm.toList)=((ds.take i).any (λx=>x.name.toList == nm.toList)||(x.name.toList == nm.toList))):=by
         obtain⟨hk',e⟩:=List.getElem?_eq_some_iff.1 hx;show _=_;rw[List.take_succ_eq_append_getElem hk',e];simp
        have HM:Hid ((x.name.toList == nm.toList)=true->(ds.take k).any (λx=>x.name.toList == nm.toList)=true):=λh=>List.any_eq_true.2 ⟨x,List.mem_of_getElem? (by rw[List.getElem?_take,if_pos hij];exact hx),h⟩;have j1:(0:Int)<=(i:Int):=by omega
        have j2:(i:Int)<(ds.length:Int):=by omega
        have j3:decide ((i:Int)<(k:Int))=true:=by simp;omega
        clear hx;cases hv:(x.name.toList == nm.toList)
        ·have HV:Hid ((ds.take (i+1)).any (λx=>x.name.toList == nm.toList)=false):=by
          show _=_;rw[HT.out,hno.out,hv];rfl
         clear HT HM hno;go_wp2_with fail
         go_quiet (fail)
         go_wp2_with fail;go_roundw
         case rel=>exact⟨i+1,by go_num,by omega,I7 D3 _,B3,V3,HV⟩
         case measure=>simp[intOf];omega
        ·have HV:Hid (res=5):=by
          have e:C8 ds k d=5:=by rw[HW2.out,HM.out hv];rfl
          show _=_;rw[HR.out,hl.out,HF.out,e];rfl
         clear HT HM hno;go_wp2_with fail
         go_quiet (fail)
         go_wp2_with fail;go_ret;exact⟨by rw[HV.out];rfl,I7 D3 _⟩
       ·have j3:decide ((i:Int)<(k:Int))=false:=by simp;omega
        have HW3:Hid (C8 ds k d=dc):=by
         have e:=hno.out;rw[show i=k by omega]at e;show _=_;rw[HW2.out,e];rfl
        clear HW2 hno;go_wp2_with fail;refine(CD.out _ D3).mono ?_;rintro e w5⟨rfl,hb5⟩;have D5:=f7 hb5 D3;have B5:=B3.below hb5 B3.1;clear hb5 D3 B3 V3 v0 v1 v2 v3 v4 v5 v6 b0 b1 CD;cases h0:(dc == 0)
        ·have HV:Hid (res=dc):=by
          have hne:¬dc=0:=by simpa using h0
          show _=_;rw[HR.out,hl.out,HF.out,HW3.out,if_neg hne,if_neg hne]
         go_wp2_with fail;go_ret;exact⟨by rw[HV.out];rfl,D5⟩
        ·have HV:Hid (m9 ds 0=m9 ds (k+1)):=by
          have he:dc=0:=by simpa using h0
          show _=_;rw[hl.out,HF.out,HW3.out,if_pos he]
         have h00:dc=0:=by simpa using h0
         subst h00;clear h0;go_wp2_with fail;go_roundw
         case rel=>first|exact⟨k+1,by go_num,by omega,D5,B5,HV⟩|((repeat apply Exists.intro);exact⟨⟨k+1,by go_num,by omega,D5,B5,HV⟩,rfl⟩)
         case measure=>simp[intOf];omega
  ·have HZ:Hid (res=o9 ds ls 0):=by
    show _=_;rw[HR.out,hl.out,fI (by omega),if_pos rfl]
   clear hl HR;go_wp2_with fail;go_loopw[10,11] (λve i wr=>∃k:Nat,i=.int .i64 (k:Int)/\k<=ls.length/\w.heap.size+1<=wr.heap.size/\Below w.heap.size w wr/\Box2 wr w.heap.size (.slice A ds.length cap) (.slice B ls.length d8)/\wr.ownsRow (w.heap.size+1) 97 2 ve (endsL (ls.take k)).length (H4 (endsL (ls.take k)))/\Hid (res=o9 ds ls k)) (λ_ i _=>ls.length-(intOf i).toNat)
   case atStart=>exact⟨0,rfl,by omega,B1.1,D1,B1,⟨rfl,.inl ⟨rfl,rfl⟩⟩,HZ⟩
   case round =>
    clear D1 B1 HZ b0 b1;obtain⟨j,rfl,hj,hsz,D1,B1,O1,hl⟩:=hrel;obtain⟨_,b0,b1,_⟩:=id B1;by_cases hjl:j<ls.length
    ·obtain⟨l,hxk⟩:∃l,ls[j]?=some l:=⟨_,List.getElem?_eq_getElem hjl⟩;obtain⟨b,o,rfl,hb,c0,c1,c2,c3⟩:=(hL.out.below D1).at hxk;have HF:Hid (o9 ds ls j=if I8 ds ls j l=0 then o9 ds ls (j+1)else I8 ds ls j l):=fJ hxk;have HW:Hid (I8 ds ls j l=if isPl ds l.a l.p&&isPl ds l.b l.q then(if selfB l||(hasP (endsL (ls.take j)) (l.a,l.p)||hasP (endsL (ls.take j)) (l.b,l.q))then 5 else 0)else 1):=by
      show _=_;rw[ke];rfl
     have HE:Hid (endsL (ls.take (j+1))=endsL (ls.take j)++[(l.a,l.p),(l.b,l.q)]):=sq hxk;have LE:Hid ((endsL (ls.take j)).length<=1000):=by show _<=_;rw[kc,List.length_take];omega
     have HSELF:Hid (selfB l=((l.a == l.b)&&(l.p == l.q))):=rfl;have k1:(0:Int)<=(j:Int):=by omega
     have k2:(j:Int)<(ls.length:Int):=by omega
     have lw:=D1.size;clear hxk;generalize endsL (ls.take j)=es at *;generalize selfB l=sf at *;generalize hla:l.a=la at *;generalize hlp:l.p=lp at *;generalize hlb:l.b=lb at *;generalize hlq:l.q=lq at *;clear hla hlp hlb hlq;have D2:=Below.alN D1 (.cells #[.int .i64 la,.int .i64 lp,.int .i64 lb,.int .i64 lq] 96);have B2:=B1.alloc (.cells #[.int .i64 la,.int .i64 lp,.int .i64 lb,.int .i64 lq] 96);have D3:=Below.alN D2 (.cells #[.int .i64 la,.int .i64 lp,.int .i64 lb,.int .i64 lq] 97);have B3:=B2.alloc (.cells #[.int .i64 la,.int .i64 lp,.int .i64 lb,.int .i64 lq] 97);have L3:=dR (wr.alloc (.cells #[.int .i64 la,.int .i64 lp,.int .i64 lb,.int .i64 lq] 96)) (.int .i64 la) (.int .i64 lp) (.int .i64 lb) (.int .i64 lq) 97;rw[World.size_alloc]at L3;have O3:=gI (gI O1 ((Below.refl _ _).alloc (Nat.le_refl _) (.cells #[.int .i64 la,.int .i64 lp,.int .i64 lb,.int .i64 lq] 96))) ((Below.refl _ _).alloc (Nat.le_refl _) (.cells #[.int .i64 la,.int .i64 lp,.int .i64 lb,.int .i64 lq] 97));have E3:EndS w ((wr.alloc (.cells #[.int .i64 la,.int .i64 lp,.int .i64 lb,.int .i64 lq] 96)).alloc (.cells #[.int .i64 la,.int .i64 lp,.int .i64 lb,.int .i64 lq] 97)) (wr.heap.size+1) (.slice A ds.length cap) (.slice (some ⟨b,o,none⟩) ls.length d8) (.int .i64 la) (.int .i64 lp) (.int .i64 lb) (.int .i64 lq) u10 es:=⟨D3,by simp;omega,B3,L3,O3⟩;go_wp2_with fail;clear c0 c1 c2 c3 D1 D2 B1 B2 O1 b0 b1 D3 B3 L3 O3;generalize wr.heap.size+1=n1 at *;go_loopw[14] (λx wr'=>∃i:Nat,x=.int .i64 (i:Int)/\i<=2/\EndS w wr' n1 (.slice A ds.length cap) (.slice (some ⟨b,o,none⟩) ls.length d8) (.int .i64 la) (.int .i64 lp) (.int .i64 lb) (.int .i64 lq) u10 es/\Hid ((0<i->isPl ds la lp=true)/\(1<i->isPl ds lb lq=true))) (λx _=>2-(intOf x).toNat)
     case atStart=>exact⟨0,rfl,by omega,E3,⟨λh=>by omega,λh=>by omega⟩⟩
     case round =>
      clear E3;obtain⟨i,rfl,hi2,E3,HP⟩:=hrel;obtain⟨_,b0,b1,_⟩:=id E3.2.2.1;obtain⟨m0,m1,m2,m3⟩:=E3.cells;by_cases hi:i<2
      ·obtain⟨d,p,cd,cp,HQ⟩:∃d p:Int,wr.cell? ⟨n1,i*2,none⟩=some (.int .i64 d)/\wr.cell? ⟨n1,i*2+1,none⟩=some (.int .i64 p)/\Hid ((i=0/\d=la/\p=lp)\/(i=1/\d=lb/\p=lq)):=by
        by_cases h:i=0
        ·subst h;exact⟨la,lp,m0,m1,Or.inl ⟨rfl,rfl,rfl⟩⟩
        ·obtain rfl:i=1:=by omega
         exact⟨lb,lq,m2,m3,Or.inr ⟨rfl,rfl,rfl⟩⟩
       have HBAD:Hid (isPl ds d p=false->res=1):=λh=>by
        have e:I8 ds ls j l=1:=by
         rw[HW.out];rcases HQ.out with⟨_,rfl,rfl⟩|⟨_,rfl,rfl⟩
         ·rw[h];rfl
         ·rw[h,Bool.and_false];rfl
        rw[hl.out,HF.out,e];rfl
       have HGOOD:Hid (isPl ds d p=true->((0<i+1->isPl ds la lp=true)/\(1<i+1->isPl ds lb lq=true))):=λh=>by
        rcases HQ.out with⟨rfl,rfl,rfl⟩|⟨rfl,rfl,rfl⟩
        ·exact⟨λ_=>h,λh1=>by omega⟩
        ·exact⟨λ_=>HP.out.1 (by omega),λ_=>h⟩
       have HPL:Hid (isPl ds d p=((decide (0<=d)&&decide (d<=(ds.length:Int)-1))&&(decide (0<=p)&&decide (p<=portsV (k9 ds d)-1)))):=ss;clear HQ HP m0 m1 m2 m3;have i1:(0:Int)<=(i:Int):=by omega
       have i2:(i:Int)<2:=by omega
       have wl:IntKind.i64.wrap ((ds.length:Int)-1)=(ds.length:Int)-1:=by rw[IntKind.wrap_i64] <;> omega
       have I0:Hid (∀w,Calls prog 8 #[.int .i64 d,.int .i64 0,.int .i64 ((ds.length:Int)-1)] w λe w'=>e=.returned (.bool (decide (0<=d)&&decide (d<=(ds.length:Int)-1)))/\w'=w):=λw=>inN _ 0 _ w;cases hx0:(decide (0<=d)&&decide (d<=(ds.length:Int)-1))
       ·have HV:Hid (res=1):=HBAD.out (by rw[HPL.out,hx0];rfl);rw[hx0]at I0;clear HBAD HGOOD HPL hx0;go_wp2_with fail
        go_quiet ((go_at_call 8;exact Calls.quiet_of_same (I0.out _)))
        go_wp2_with fail;go_ret;exact⟨by rw[HV.out];rfl,(E3.drewN _).below⟩
       ·have hd:0<=d/\d<=(ds.length:Int)-1:=by simpa using hx0
        rw[hx0]at I0 HPL;clear hx0;obtain⟨i',rfl⟩:∃i':Nat,d=(i':Int):=⟨d.toNat,by omega⟩;have hil:i'<ds.length:=by omega
        obtain⟨x,hx⟩:∃x,ds[i']?=some x:=⟨_,List.getElem?_eq_getElem hil⟩;obtain⟨bd,od,_,_,_,rfl,hbd,_,_,_,_,ck,_⟩:=(hD.out.below E3.1).at hx;have ek:k9 ds (i':Int)=x.kind:=by
         unfold k9;rw[Int.toNat_natCast,hx];rfl
        rw[ek]at HPL;obtain⟨pk,hpk,hp4⟩:=lk x.kind;have PO:Hid (∀w,Calls prog 19 #[.int .i64 x.kind] w λe w'=>e=.returned (.int .i64 (portsV x.kind))/\Below w.heap.size w w'):=λw=>aT x.kind w;rw[hpk]at PO HPL;have wp:IntKind.i64.wrap ((pk:Int)-1)=(pk:Int)-1:=by rw[IntKind.wrap_i64] <;> omega
        have I1:Hid (∀w,Calls prog 8 #[.int .i64 p,.int .i64 0,.int .i64 ((pk:Int)-1)] w λe w'=>e=.returned (.bool (decide (0<=p)&&decide (p<=(pk:Int)-1)))/\w'=w):=λw=>inN _ 0 _ w;have j1:(0:Int)<=(i':Int):=by omega
        have j2:(i':Int)<(ds.length:Int):=by omega
        clear hx hd ek hpk;generalize (decide (0<=p)&&decide (p<=(pk:Int)-1))=y at *;generalize x.kind=kd at *;have E4:=E3.drew;go_wp2_with fail;go_region_held3 (λw'=>w'.cell? ⟨n1,i*2,none⟩=some (.int .i64 (i':Int))/\w'.cell? ⟨n1,i*2+1,none⟩=some (.int .i64 p)/\w'.cell? ⟨w.heap.size,0,none⟩=some (.slice (some ⟨bd,od,none⟩) ds.length cap)/\w'.cell? ⟨bd,od+i'*7+1,none⟩=some (.int .i64 kd)) (go_keep) (first|(go_at_call 19;refine(PO.out _).mono ?_;rintro e w4⟨rfl,hb4⟩;have E5:=E4.keep hb4;have cd5:=(hb4.cell (p:=⟨n1,i*2,none⟩) E4.2.2.2.1.1).trans cd;have cp5:=(hb4.cell (p:=⟨n1,i*2+1,none⟩) E4.2.2.2.1.1).trans cp;have ck5:=(hb4.cell (p:=⟨bd,od+i'*7+1,none⟩) (Nat.lt_of_lt_of_le hbd E4.1.size)).trans ck;have b05:=(hb4.cell (p:=⟨w.heap.size,0,none⟩) E4.2.2.1.1).trans b0)|(go_at_call_of 8 (Value.int .i64 (i':Int));refine(I0.out _).mono ?_;rintro e w5⟨rfl,rfl⟩)|(go_at_call_of 8 (Value.int .i64 p);refine(I1.out _).mono ?_;rintro e w6⟨rfl,rfl⟩))
        cases y
        ·have HV:Hid (res=1):=HBAD.out (by rw[HPL.out];rfl);clear HBAD HGOOD HPL;go_wp2_with fail;go_ret;exact⟨by rw[HV.out];rfl,E5.below⟩
        ·have HV:=HGOOD.out (by rw[HPL.out];rfl);clear HBAD HGOOD HPL;go_wp2_with fail;go_roundw
         case rel=>exact⟨i+1,by go_num,by omega,E5,HV⟩
         case measure=>simp[intOf];omega
      ·obtain⟨hp1,hp2⟩:=HP.out;have HW2:Hid (I8 ds ls j l=if sf||(hasP es (la,lp)||hasP es (lb,lq))then 5 else 0):=by
        show _=_;rw[HW.out,hp1 (by omega),hp2 (by omega)];rfl
       clear hp1 hp2 HP HW m0 m1 m2 m3;obtain rfl:i=2:=by omega
       have C1:Hid (∀W,EndS w W n1 (.slice A ds.length cap) (.slice (some ⟨b,o,none⟩) ls.length d8) (.int .i64 la) (.int .i64 lp) (.int .i64 lb) (.int .i64 lq) u10 es->Calls prog 34 #[u10,prV la lp] W λe w'=>e=.returned (.bool (hasP es (la,lp)))/\Below W.heap.size W w'):=λW h=>jD u10 es la lp W (Prs.own h.2.2.2.2);have C2:Hid (∀W,EndS w W n1 (.slice A ds.length cap) (.slice (some ⟨b,o,none⟩) ls.length d8) (.int .i64 la) (.int .i64 lp) (.int .i64 lb) (.int .i64 lq) u10 es->Calls prog 34 #[u10,prV lb lq] W λe w'=>e=.returned (.bool (hasP es (lb,lq)))/\Below W.heap.size W w'):=λW h=>jD u10 es lb lq W (Prs.own h.2.2.2.2);have APP:Hid (∀W,EndS w W n1 (.slice A ds.length cap) (.slice (some ⟨b,o,none⟩) ls.length d8) (.int .i64 la) (.int .i64 lp) (.int .i64 lb) (.int .i64 lq) u10 es->∃v' w',(Builtin.append_ #[94,94] 94 #[u10,.slice (some ⟨n1,0,none⟩) 2 2]).run prog W=.ok v' w'/\w.heap.size+1<=w'.heap.size/\Below w.heap.size w w'/\Box2 w' w.heap.size (.slice A ds.length cap) (.slice (some ⟨b,o,none⟩) ls.length d8)/\w'.ownsRow (w.heap.size+1) 97 2 v' (es++[(la,lp),(lb,lq)]).length (H4 (es++[(la,lp),(lb,lq)]))):=λW h=>by
        obtain⟨h1,h2,h3,h4,h5⟩:=h;obtain⟨_,q0,q1,q2,q3⟩:=h4;obtain⟨v',w',r1,r2,r3⟩:=qj 94 h5 q0 q1 q2 q3 (by have:=LE.out;omega) h2;have hbl:Below (w.heap.size+1) W w':=Below.app2 (Below.refl _ _) h5 r3 (Nat.le_refl _) h2;exact⟨v',w',r1,Nat.le_trans h2 hbl.size,Below.app2 h1 h5 r3 (by omega) h2,h3.below hbl (by omega),r2⟩
       have PE:∀w,(binOp .eql 97 (prV la lp) (prV lb lq)).run prog w=.ok (.bool sf) w:=λw=>by rw[jC,<- HSELF.out]
       generalize hasP es (la,lp)=x1 at *;generalize hasP es (lb,lq)=x2 at *;have E4:=E3.drew;have H5:Hid ((sf||(x1||x2))=true->res=5):=λh=>by
        have e:I8 ds ls j l=5:=by rw[HW2.out,h];rfl
        rw[hl.out,HF.out,e];rfl
       have H0:Hid ((sf||(x1||x2))=false->res=o9 ds ls (j+1)):=λh=>by
        have e:I8 ds ls j l=0:=by rw[HW2.out,h];rfl
        rw[hl.out,HF.out,e];rfl
       clear HW2 HF hl HSELF;cases sf
       ·cases x1
        ·have H6:Hid (x2=true->res=5):=λh=>H5.out (by rw[h];rfl);have H7:Hid (x2=false->res=o9 ds ls (j+1)):=λh=>H0.out (by rw[h];rfl);clear H5 H0;go_wp2_with fail;refine wp_region_held_drew (S:=(λw'=>w'.cell? ⟨n1,0,none⟩=some (.int .i64 la)/\w'.cell? ⟨n1,1,none⟩=some (.int .i64 lp)/\w'.cell? ⟨n1,2,none⟩=some (.int .i64 lb)/\w'.cell? ⟨n1,3,none⟩=some (.int .i64 lq))) (by kernel_rfl) (EndS.cells (n1:=n1) ‹_›) (λhHeld=>?_);refine tk 0 ?_;try simp only[ly]
         refine tk 1 ?_;try simp only[ly]
         refine tk 2 ?_;try simp only[ly]
         refine tk 3 ?_;try simp only[ly]
         refine tk 4 ?_;try simp only[ly]
         refine tk 5 ?_;try simp only[ly]
         refine tk 6 ?_;try simp only[ly]
         refine tk 7 ?_;try simp only[ly]
         refine tk 8 ?_;try simp only[ly]
         refine tk 9 ?_;try simp only[ly]
         refine tk 10 ?_;try simp only[ly]
         refine tk 11 ?_;try simp only[ly]
         refine rd 12 (λK hK=>?_);go_simp;refine(C1.out _ ‹_›).mono ?_;rintro e wz⟨rfl,hbz⟩;have Ez:=EndS.keep (n1:=n1) ‹_› hbz;clear hbz;try go_wp2_with fail
         clear hHeld;refine hK.out _ _ (EndS.cells (n1:=n1) ‹_›) (λhHeld=>?_);clear hK K;try simp only[ly]
         refine tk 13 ?_;try simp only[ly]
         refine tk 14 ?_;try simp only[ly]
         refine tk 15 ?_;try simp only[ly]
         refine tk 16 ?_;try simp only[ly]
         refine tk 17 ?_;try simp only[ly]
         refine tk 18 ?_;try simp only[ly]
         refine rd 19 (λK hK=>?_);go_simp;refine(C2.out _ ‹_›).mono ?_;rintro e wz⟨rfl,hbz⟩;have Ez:=EndS.keep (n1:=n1) ‹_› hbz;clear hbz;try go_wp2_with fail
         clear hHeld;refine hK.out _ _ (EndS.cells (n1:=n1) ‹_›) (λhHeld=>?_);clear hK K;try simp only[ly]
         refine tk 20 ?_;try simp only[ly]
         refine wpAnyH_done (by kernel_rfl) ?_ _;cases x2
         ·have HV:Hid (res=o9 ds ls (j+1)):=H7.out rfl;obtain⟨v5,w5,r5,s5,D5,B5,O5⟩:=APP.out _ ‹_›;rw[<- HE.out]at O5;go_wp2_with (at_builtin;refine qk rfl _ _ 94 rfl rfl rfl r5 ?_);go_roundw
          case rel=>first|exact⟨j+1,by go_num,by omega,s5,D5,B5,O5,HV⟩|((repeat apply Exists.intro);exact⟨⟨j+1,by go_num,by omega,s5,D5,B5,O5,HV⟩,rfl⟩)
          case measure=>simp[intOf];omega
         ·have HV:Hid (res=5):=H6.out rfl;go_wp2_with fail;go_ret;exact⟨by rw[HV.out];rfl,EndS.below ‹_›⟩
        ·have HV:Hid (res=5):=H5.out rfl;clear H5 H0;go_wp2_with fail;refine wp_region_held_drew (S:=(λw'=>w'.cell? ⟨n1,0,none⟩=some (.int .i64 la)/\w'.cell? ⟨n1,1,none⟩=some (.int .i64 lp)/\w'.cell? ⟨n1,2,none⟩=some (.int .i64 lb)/\w'.cell? ⟨n1,3,none⟩=some (.int .i64 lq))) (by kernel_rfl) (EndS.cells (n1:=n1) ‹_›) (λhHeld=>?_);refine tk 0 ?_;try simp only[ly]
         refine tk 1 ?_;try simp only[ly]
         refine tk 2 ?_;try simp only[ly]
         refine tk 3 ?_;try simp only[ly]
         refine tk 4 ?_;try simp only[ly]
         refine tk 5 ?_;try simp only[ly]
         refine tk 6 ?_;try simp only[ly]
         refine tk 7 ?_;try simp only[ly]
         refine tk 8 ?_;try simp only[ly]
         refine tk 9 ?_;try simp only[ly]
         refine tk 10 ?_;try simp only[ly]
         refine tk 11 ?_;try simp only[ly]
         refine rd 12 (λK hK=>?_);go_simp;refine(C1.out _ ‹_›).mono ?_;rintro e wz⟨rfl,hbz⟩;have Ez:=EndS.keep (n1:=n1) ‹_› hbz;clear hbz;try go_wp2_with fail
         clear hHeld;refine hK.out _ _ (EndS.cells (n1:=n1) ‹_›) (λhHeld=>?_);clear hK K;try simp only[ly]
         refine tk 13 ?_;try simp only[ly]
         refine tk 14 ?_;try simp only[ly]
         refine tk0 15 ?_;try simp only[ly]
         refine tk0 16 ?_;try simp only[ly]
         refine tk0 17 ?_;try simp only[ly]
         refine tk0 18 ?_;try simp only[ly]
         refine tk0 19 ?_;try simp only[ly]
         refine tk 20 ?_;try simp only[ly]
         refine wpAnyH_done (by kernel_rfl) ?_ _;go_wp2_with fail;go_ret;exact⟨by rw[HV.out];rfl,EndS.below ‹_›⟩
       ·have HV:Hid (res=5):=H5.out rfl;clear H5 H0;go_wp2_with fail;refine wp_region_held_drew (S:=(λw'=>w'.cell? ⟨n1,0,none⟩=some (.int .i64 la)/\w'.cell? ⟨n1,1,none⟩=some (.int .i64 lp)/\w'.cell? ⟨n1,2,none⟩=some (.int .i64 lb)/\w'.cell? ⟨n1,3,none⟩=some (.int .i64 lq))) (by kernel_rfl) (EndS.cells (n1:=n1) ‹_›) (λhHeld=>?_);refine tk 0 ?_;try simp only[ly]
        refine tk 1 ?_;try simp only[ly]
        refine tk 2 ?_;try simp only[ly]
        refine tk 3 ?_;try simp only[ly]
        refine tk 4 ?_;try simp only[ly]
        refine tk 5 ?_;try simp only[ly]
        refine tk 6 ?_;try simp only[ly]
        refine tk 7 ?_;try simp only[ly]
        refine tk0 8 ?_;try simp only[ly]
        refine tk0 9 ?_;try simp only[ly]
        refine tk0 10 ?_;try simp only[ly]
        refine tk0 11 ?_;try simp only[ly]
        refine tk0 12 ?_;try simp only[ly]
        refine tk 13 ?_;try simp only[ly]
        refine tk 14 ?_;try simp only[ly]
        refine tk0 15 ?_;try simp only[ly]
        refine tk0 16 ?_;try simp only[ly]
        refine tk0 17 ?_;try simp only[ly]
        refine tk0 18 ?_;try simp only[ly]
        refine tk0 19 ?_;try simp only[ly]
        refine tk 20 ?_;try simp only[ly]
        refine wpAnyH_done (by kernel_rfl) ?_ _;go_wp2_with fail;go_ret;exact⟨by rw[HV.out];rfl,EndS.below ‹_›⟩
    ·have HV:Hid (res=0):=by
      show _=_;rw[hl.out,fK (by omega)]
     go_wp2_with fail;go_ret;exact⟨by rw[HV.out];rfl,D1⟩
end Go.Proofs.YtppbfikimalojaaGreat
namespace Go.Proofs.YtppbfikimalojaaGreat
open Tryz
open Go.RowKit Go.Maps
theorem sE(vd vl:Value)(ds:List Dv)(ls:List Lk)(w:World)(hD:Devs w.heap.size w vd ds)(hL:Links w.heap.size w vl ls) :
  Calls prog 7 #[.agg #[vd,vl]] w λe w'=>e=.returned (.int .i64 (netV ds ls))/\Below w.heap.size w w':=by
 have hD0:=hD;have hL0:=hL;obtain⟨A,cap,rfl,_,_,_,_⟩:=hD;obtain⟨B,d8,rfl,_,_,_,_⟩:=hL;unfold netV;by_cases h:10<ds.length\/15<ls.length
 ·rw[if_pos h];have D0:=Below.alN (Below.refl w.heap.size w) (.cells #[.slice A ds.length cap,.slice B ls.length d8] 25);clear hD0 hL0;by_cases h10:10<ds.length
  ·have t10:decide ((10:Int)<(ds.length:Int))=true:=by simp;omega
   clear h;go_enter func7,ntmps7;go_wp2_with fail;go_ret;exact⟨rfl,D0⟩
  ·have t10:decide ((10:Int)<(ds.length:Int))=false:=by simp;omega
   have t15:decide ((15:Int)<(ls.length:Int))=true:=by simp;omega
   clear h;go_enter func7,ntmps7;go_wp2_with fail;go_ret;exact⟨rfl,D0⟩
 ·rw[if_neg h];exact sC A B cap d8 ds ls _ w hD0 hL0 (by omega) (by omega) rfl
theorem kg(A B:Option Addr)(cap d8:Nat)(ds:List Dv)(ls:List Lk)(m:Int)(w:World)(hD:Devs w.heap.size w (.slice A ds.length cap) ds)(hL:Links w.heap.size w (.slice B ls.length d8) ls) :
  Calls prog 6 #[.agg #[.slice A ds.length cap,.slice B ls.length d8],.int .i64 m] w λe w'=>Below w.heap.size w w'/\((∃R:Nat,e=.returned (.tuple #[.pointer (some ⟨R,0,none⟩),.int .i64 0])/\Hid (netV ds ls=0/\(2<=m/\m<=40000)/\∃(bR MR c9 K:Nat) (sl:Value) (xs:List Value) (ns:List Nd) (s:Nat->Nat->Nat->Nat),RcF ds ls bR R MR c9 K sl xs ns s w'))\/∃er:Int,e=.returned (.tuple #[.pointer none,.int .i64 er])/\Hid (er≠0/\(netV ds ls=0->2<=m/\m<=40000->er=6)/\(netV ds ls=0->¬(2<=m/\m<=40000)->er=1)/\(netV ds ls≠0->er=netV ds ls))):=by
 by_cases hz:netV ds ls=0
 ·by_cases hm:2<=m/\m<=40000
  ·obtain⟨c9,rfl⟩:∃k:Nat,m=(k:Int):=⟨m.toNat,by omega⟩;refine(sV A B cap d8 ds ls c9 (by omega) (by omega) hz (hZ hz) hD hL 40000 True (λk _ i q a b d hd _ _ _=>vU (hZ hz d (List.mem_of_getElem? hd)) _ _ _ _ _ _)).mono λe w' h=>?_;obtain⟨hb,⟨bR,R,MR,K,sl,xs,ns,s,h1,h2,hF⟩|⟨h1,_⟩⟩:=h.made
   ·exact⟨hb,Or.inl ⟨R,h1,hz,hm,bR,MR,c9,K,sl,xs,ns,s,hF⟩⟩
   ·exact⟨hb,Or.inr ⟨6,h1,by omega,λ_ _=>rfl,λ_ h=>absurd hm h,λh=>absurd hz h⟩⟩
  ·refine(rnew_most _ _ ds ls m w hD hL hz (by omega)).mono λe w' ⟨h1,h2⟩=>⟨h2,Or.inr ⟨1,h1,by omega,λ_ h=>absurd h hm,λ_ _=>rfl,λh=>absurd hz h⟩⟩
 ·exact(qH _ _ ds ls m w hD hL hz).mono λe w' ⟨h1,h2⟩=>⟨h2,Or.inr ⟨_,h1,hz,λh=>absurd h hz,λh=>absurd h hz,λ_=>rfl⟩⟩
section
variable {ds:List Dv}{ls:List Lk}{bR R MR c9 K:Nat}{sl:Value}{xs:List Value}{ns:List Nd}{s:Nat->Nat->Nat->Nat}{W:World}{T:Tab}
end
end Go.Proofs.YtppbfikimalojaaGreat
namespace Go.Proofs.YtppbfikimalojaaGreat
open Tryz
structure Dif(b8:Nat)(ns:List Nd)(f g F G b:Nat):Prop where
 lF:F<ns.length
 lG:G<ns.length
 ne:F≠G
 mul:2 ^ (b8-min (nv ns F) (nv ns G)) ∣ b
 top:b+2 ^ (b8-min (nv ns F) (nv ns G))<=2 ^ b8
 same:∀c,c<b->ev ns f (envOf b8 c)=ev ns g (envOf b8 c)
 evF:∀c,b<=c->c<b+2 ^ (b8-min (nv ns F) (nv ns G))->ev ns f (envOf b8 c)=ev ns F (envOf b8 c)
 evG:∀c,b<=c->c<b+2 ^ (b8-min (nv ns F) (nv ns G))->ev ns g (envOf b8 c)=ev ns G (envOf b8 c)
theorem gJ{b8 v b c:Nat}(hv:v<b8)(hm:2 ^ (b8-v) ∣ b)(h1:b<=c)(h2:c<b+2 ^ (b8-1-v)):envOf b8 c v=false:=by
 obtain⟨k,rfl⟩:=hm;obtain⟨d,rfl⟩:∃d,c=2 ^ (b8-v)*k+d:=⟨c-2 ^ (b8-v)*k,by omega⟩;have hd:d<2 ^ (b8-1-v):=by omega
 unfold envOf;rw[Nat.testBit_two_pow_mul_add _ (Nat.lt_of_lt_of_le hd (Nat.pow_le_pow_right (by omega) (by omega)))];rw[if_pos (by omega)];exact Nat.testBit_lt_two_pow hd
theorem kh{b8 v b c:Nat}(hv:v<b8)(hm:2 ^ (b8-v) ∣ b)(h1:b+2 ^ (b8-1-v)<=c)(h2:c<b+2 ^ (b8-v)):envOf b8 c v=true:=by
 obtain⟨k,rfl⟩:=hm;have hpos:0<2 ^ (b8-1-v):=Nat.two_pow_pos _;obtain⟨d,rfl⟩:∃d,c=2 ^ (b8-v)*k+d:=⟨c-2 ^ (b8-v)*k,by omega⟩;have hd:d<2 ^ (b8-v):=by omega
 have hd2:2 ^ (b8-1-v)<=d:=by omega
 have e:b8-v=b8-1-v+1:=by omega
 unfold envOf;rw[Nat.testBit_two_pow_mul_add _ hd,if_pos (by omega)];rw[e]at hd;rw[Nat.testBit_eq_decide_div_mod_eq];rw[Nat.pow_succ]at hd;have h3:d / 2 ^ (b8-1-v)=1:=by
  have:0<2 ^ (b8-1-v):=Nat.two_pow_pos _;rw[Nat.div_eq_iff this];omega
 rw[h3];rfl
variable {b8:Nat}{ns:List Nd}
theorem cR(h:Wf b8 ns){f v:Nat}(hf:f<ns.length)(hv:v<b8)(hle:v<=nv ns f)(val:Bool){e:Env}(he:e v=val):ev ns f e=ev ns (partOf ns f v val) e:=by
 rw[W6 h hf hv hle,dB he]
theorem ki(h:Wf b8 ns){f v:Nat}(hf:f<ns.length)(hv:v<b8)(val:Bool):partOf ns f v val<=f/\(nv ns f=v->partOf ns f v val<f):=by
 unfold partOf
 split
 ·rename_i e
  have h2:=va_lt h hf (by omega);have:=h.lo f h2 hf;have:=h.hi f h2 hf;cases val <;> simp <;> omega
 ·rename_i e
  exact⟨Nat.le_refl _,λx=>absurd x e⟩
theorem sG(h:Wf b8 ns){F G v:Nat}(lF:F<ns.length)(lG:G<ns.length)(hv:v<b8)(hne:F≠G)(hm:v=min (nv ns F) (nv ns G))(he:partOf ns F v false=partOf ns G v false):partOf ns F v true≠partOf ns G v true:=by
 unfold partOf at *;by_cases h1:nv ns F=v
 ·by_cases h2:nv ns G=v
  ·simp only[h1,h2,if_true,Bool.false_eq_true,if_false]at he ⊢;intro h3;have a:=va_lt h lF (by omega);have b:=va_lt h lG (by omega);refine hne (h.uniq F G a lF b lG ?_);exact Prod.ext (h1.trans h2.symm) (Prod.ext he h3)
  ·simp only[h1,h2,if_true,Bool.false_eq_true,if_false]at he ⊢;have a:=va_lt h lF (by omega);have:=h.ne F a lF;omega
 ·by_cases h2:nv ns G=v
  ·simp only[h1,h2,if_true,Bool.false_eq_true,if_false]at he ⊢;have b:=va_lt h lG (by omega);have:=h.ne G b lG;omega
  ·omega
theorem Dif.start{f g:Nat}(lf:f<ns.length)(lg:g<ns.length)(hne:f≠g):Dif b8 ns f g f g 0 :=
 ⟨lf,lg,hne,Nat.dvd_zero _,by rw[Nat.zero_add];exact Nat.pow_le_pow_right (by omega) (by omega),λc hc=>by omega,λ_ _ _=>rfl,λ_ _ _=>rfl⟩
theorem Dif.low(h:Wf b8 ns){f g F G b v:Nat}(D:Dif b8 ns f g F G b)(hv:v<b8)(hm:v=min (nv ns F) (nv ns G))(hne:partOf ns F v false≠partOf ns G v false) :
  Dif b8 ns f g (partOf ns F v false) (partOf ns G v false) b:=by
 have l1:=J6 h D.lF hv (by omega) false;have l2:=J6 h D.lG hv (by omega) false;have hlt:b8-min (nv ns (partOf ns F v false)) (nv ns (partOf ns G v false))<=b8-1-v:=by omega
 have hpw:2 ^ (b8-min (nv ns (partOf ns F v false)) (nv ns (partOf ns G v false)))<=2 ^ (b8-1-v):=Nat.pow_le_pow_right (by omega) hlt;have hpv:2 ^ (b8-1-v)<=2 ^ (b8-v):=Nat.pow_le_pow_right (by omega) (by omega);have m0:=D.mul;have t0:=D.top;rw[<- hm]at m0 t0;refine⟨O8 h D.lF hv false,O8 h D.lG hv false,hne,Nat.dvd_trans (Nat.pow_dvd_pow 2 (by omega)) m0,by omega,D.same,λc c1 c2=>?_,λc c1 c2=>?_⟩
 ·rw[<- cR h D.lF hv (by omega) false (gJ hv m0 c1 (by omega))];exact D.evF c c1 (by rw[<- hm];omega)
 ·rw[<- cR h D.lG hv (by omega) false (gJ hv m0 c1 (by omega))];exact D.evG c c1 (by rw[<- hm];omega)
theorem Dif.high(h:Wf b8 ns){f g F G b v:Nat}(D:Dif b8 ns f g F G b)(hv:v<b8)(hm:v=min (nv ns F) (nv ns G))(he:partOf ns F v false=partOf ns G v false) :
  Dif b8 ns f g (partOf ns F v true) (partOf ns G v true) (b+2 ^ (b8-1-v)):=by
 have l1:=J6 h D.lF hv (by omega) true;have l2:=J6 h D.lG hv (by omega) true;have hlt:b8-min (nv ns (partOf ns F v true)) (nv ns (partOf ns G v true))<=b8-1-v:=by omega
 have hpw:2 ^ (b8-min (nv ns (partOf ns F v true)) (nv ns (partOf ns G v true)))<=2 ^ (b8-1-v):=Nat.pow_le_pow_right (by omega) hlt;have hpv:2 ^ (b8-v)=2 ^ (b8-1-v)+2 ^ (b8-1-v):=by
  rw[show b8-v=b8-1-v+1 by omega,Nat.pow_succ];omega
 have m0:=D.mul;have t0:=D.top;rw[<- hm]at m0 t0;refine⟨O8 h D.lF hv true,O8 h D.lG hv true,sG h D.lF D.lG hv D.ne hm he,Nat.dvd_trans (Nat.pow_dvd_pow 2 hlt) (Nat.dvd_add (Nat.dvd_trans (Nat.pow_dvd_pow 2 (by omega)) m0) (Nat.dvd_refl _)),by omega,λc hc=>?_,λc c1 c2=>?_,λc c1 c2=>?_⟩
 ·by_cases hb:c<b
  ·exact D.same c hb
  ·have lo:=gJ hv m0 (by omega) hc;rw[D.evF c (by omega) (by rw[<- hm];omega),D.evG c (by omega) (by rw[<- hm];omega),cR h D.lF hv (by omega) false lo,cR h D.lG hv (by omega) false lo,he]
 ·have up:=kh hv m0 c1 (by omega);rw[<- cR h D.lF hv (by omega) true up];exact D.evF c (by omega) (by rw[<- hm];omega)
 ·have up:=kh hv m0 c1 (by omega);rw[<- cR h D.lG hv (by omega) true up];exact D.evG c (by omega) (by rw[<- hm];omega)
theorem Dif.lt{f g F G b:Nat}(D:Dif b8 ns f g F G b):b<2 ^ b8:=by
 have:=D.top;have:0<2 ^ (b8-min (nv ns F) (nv ns G)):=Nat.two_pow_pos _;omega
def dK(n:Nat)(P Q:Nat->Bool)(c:Nat):Prop:=c<n/\P c≠Q c/\∀d,d<c->P d=Q d
theorem Dif.fin{f g F G b:Nat}(D:Dif b8 ns f g F G b)(h1:F<=1)(h2:G<=1):dK (2 ^ b8) (λc=>ev ns f (envOf b8 c)) (λc=>ev ns g (envOf b8 c)) b:=by
 refine⟨D.lt,?_,D.same⟩;have hp:0<2 ^ (b8-min (nv ns F) (nv ns G)):=Nat.two_pow_pos _;show ev ns f (envOf b8 b)≠ev ns g (envOf b8 b);rw[D.evF b (Nat.le_refl _) (by omega),D.evG b (Nat.le_refl _) (by omega)];have hn:=D.ne
 match F,G,h1,h2 with
 | 0,1,_,_=>rw[ev0,ev1];decide
 | 1,0,_,_=>rw[ev0,ev1];decide
 | 0,0,_,_=>exact absurd rfl hn
 | 1,1,_,_=>exact absurd rfl hn
theorem sI{b8 v b:Nat}(hv:v<b8)(hm:2 ^ (b8-v) ∣ b):b ||| 2 ^ (b8-1-v)=b+2 ^ (b8-1-v):=by
 obtain⟨k,rfl⟩:=hm;rw[Nat.two_pow_add_eq_or_of_lt];exact Nat.pow_lt_pow_right (by omega) (by omega)
end Go.Proofs.YtppbfikimalojaaGreat
namespace Go.Proofs.YtppbfikimalojaaGreat
open Tryz
open Go.RowKit Go.Maps
theorem sJ{ds:List Dv}{ls:List Lk}{S M k nS nA:Nat}{bl:(Int × Int)->Option Nat}{T:Tab}{j:Int}(p:Pk)(W:World)(h:SpV ds ls S M bl T k W)(hj:N9 (j,0))(c0:W.cell? ⟨nS,0,none⟩=some (.pointer (some ⟨S,0,none⟩)))(c1:W.cell? ⟨nA,0,none⟩=some (.int .i64 j))(c2:W.cell? ⟨nA,1,none⟩=some (.int .i64 0))(l1:nS<W.heap.size)(l2:nA<W.heap.size) :
  Calls prog 27 #[pkV p,.pointer (some ⟨nS,0,none⟩),.pointer (some ⟨nA,0,none⟩)] W λe w'=>e=.returned (.bool (decide (0<=rndP ds T (j,0) p)))/\Below W.heap.size W w':=by
 have RR:Hid (∀V,Below W.heap.size W V->Calls prog 12 #[.pointer (some ⟨S,0,none⟩),.agg #[.int .i64 j,.int .i64 0],pkV p] V λe w'=>e=.returned (.int .i64 (rndP ds T (j,0) p))/\Below V.heap.size V w'):=λV hb=>qV (h.grow hb) hj p;have D1:Below W.heap.size W (W.alloc (.cells #[.int .i64 p.s,.int .i64 p.d,.int .i64 p.sp,.int .i64 p.dp] 29)):=Below.alN (Below.refl _ _) _;clear h hj;generalize rndP ds T (j,0) p=r at *;obtain⟨s,d,sp,dp⟩:=p;dsimp only at *;go_enter func27,ntmps27;go_wp2_with fail;refine(RR.out _ D1).mono ?_;rintro e w2⟨rfl,hb2⟩;have D2:=g8 hb2 D1;clear RR hb2 D1 c0 c1 c2;go_wp2_with fail;go_ret;exact⟨by simp,D2⟩
def bS(σ τ:Nat->Bool)(x0 x1 x2 x3 k:Int):Prop :=
 (x0=0/\x1=0/\x2=0/\x3=0/\k=0/\∀c,c<16384->σ c=τ c)\/∃c,x0=(pkN c).s/\x1=(pkN c).d/\x2=(pkN c).sp/\x3=(pkN c).dp/\k=(if σ c then 1 else 2)/\dK 16384 σ τ c
abbrev set4(W:World)(k:Nat)(a b c d:Value):World:=(((W.setCell ⟨k,0,none⟩ a).setCell ⟨k,1,none⟩ b).setCell ⟨k,2,none⟩ c).setCell ⟨k,3,none⟩ d
theorem Bk.set4{W:World}{k:Nat}{t:TypeId}{x0 x1 x2 x3:Value}(h:Bk W k #[x0,x1,x2,x3] t)(a b c d:Value):Bk (set4 W k a b c d) k #[a,b,c,d] t:=by
 have:=(((h.setS (j:=0) a).setS (j:=1) b).setS (j:=2) c).setS (j:=3) d;simpa using this
theorem sK(nS nA nS2 nA2:Nat)(σ τ:Nat->Bool)(w:World)
  (CA:Hid (∀W c,Below w.heap.size w W->c<16384->Calls prog 27 #[pkV (pkN c),.pointer (some ⟨nS,0,none⟩),.pointer (some ⟨nA,0,none⟩)] W λe w'=>e=.returned (.bool (σ c))/\Below W.heap.size W w'))
  (CB:Hid (∀W c,Below w.heap.size w W->c<16384->Calls prog 27 #[pkV (pkN c),.pointer (some ⟨nS2,0,none⟩),.pointer (some ⟨nA2,0,none⟩)] W λe w'=>e=.returned (.bool (τ c))/\Below W.heap.size W w')) :
  Calls prog 28 #[.func (.func 27) #[] #[.pointer (some ⟨nS,0,none⟩),.pointer (some ⟨nA,0,none⟩)],.func (.func 27) #[] #[.pointer (some ⟨nS2,0,none⟩),.pointer (some ⟨nA2,0,none⟩)]] w λe w'=>∃x0 x1 x2 x3 k:Int,e=.returned (.tuple #[pk x0 x1 x2 x3,.int .i64 k])/\Hid (bS σ τ x0 x1 x2 x3 k)/\Below w.heap.size w w':=by
 obtain⟨V,hV⟩:∃V:World->Prop,V=λW=>Below w.heap.size w W/\Bk W w.heap.size #[.int .i64 0,.int .i64 0,.int .i64 0,.int .i64 0] 29:=⟨_,rfl⟩;have V0:V (w.alloc (.cells #[.int .i64 0,.int .i64 0,.int .i64 0,.int .i64 0] 29)):=by rw[hV];exact⟨Below.alN (Below.refl _ _) _,i7 _ _ _⟩
 have VB:Hid (∀{W W':World},V W->Below W.heap.size W W'->V W'):=λ{W W'} h k=>by rw[hV]at h ⊢;exact⟨g8 k h.1,Bk.keep k h.2⟩
 have VC:Hid (∀{W:World},V W->w.heap.size<W.heap.size/\W.cell? ⟨w.heap.size,0,none⟩=some (.int .i64 0)/\W.cell? ⟨w.heap.size,1,none⟩=some (.int .i64 0)/\W.cell? ⟨w.heap.size,2,none⟩=some (.int .i64 0)/\W.cell? ⟨w.heap.size,3,none⟩=some (.int .i64 0)/\∀j,W.frozen? ⟨w.heap.size,j,none⟩=false):=λ{W} h=>by
  rw[hV]at h;exact⟨h.2.lt,h.2.at 0,h.2.at 1,h.2.at 2,h.2.at 3,h.2.fz⟩
 have VK:Hid (∀{W:World},V W->Bk W w.heap.size #[.int .i64 0,.int .i64 0,.int .i64 0,.int .i64 0] 29):=λ{W} h=>by
  rw[hV]at h;exact h.2
 have CA:Hid (∀{W:World} {c:Nat},V W->c<16384->Calls prog 27 #[pkV (pkN c),.pointer (some ⟨nS,0,none⟩),.pointer (some ⟨nA,0,none⟩)] W λe w'=>e=.returned (.bool (σ c))/\Below W.heap.size W w'):=λ{W c} h hc=>by rw[hV]at h;exact CA.out W c h.1 hc
 have CB:Hid (∀{W:World} {c:Nat},V W->c<16384->Calls prog 27 #[pkV (pkN c),.pointer (some ⟨nS2,0,none⟩),.pointer (some ⟨nA2,0,none⟩)] W λe w'=>e=.returned (.bool (τ c))/\Below W.heap.size W w'):=λ{W c} h hc=>by rw[hV]at h;exact CB.out W c h.1 hc
 have FIN:Hid (∀{W:World} (x0 x1 x2 x3 k:Int),bS σ τ x0 x1 x2 x3 k->V W->∃y0 y1 y2 y3 k':Int,Ending.returned (.tuple #[pk x0 x1 x2 x3,.int .i64 k])=.returned (.tuple #[pk y0 y1 y2 y3,.int .i64 k'])/\Hid (bS σ τ y0 y1 y2 y3 k')/\Below w.heap.size w (set4 W w.heap.size (.int .i64 x0) (.int .i64 x1) (.int .i64 x2) (.int .i64 x3))):=λ{W} x0 x1 x2 x3 k hL h=>by
  rw[hV]at h;exact⟨x0,x1,x2,x3,k,rfl,hL,r9 (r9 (r9 (r9 h.1 (Nat.le_refl _)) (Nat.le_refl _)) (Nat.le_refl _)) (Nat.le_refl _)⟩
 clear hV;go_enter func28,ntmps28;go_wp2_with fail;go_loopw[8] (λs8 wr=>∃c:Nat,s8=.int .i64 (c:Int)/\c<=16384/\V wr/\Hid (∀d,d<c->σ d=τ d)) (λs8 _=>16384-(intOf s8).toNat)
 case atStart=>exact⟨0,rfl,by omega,V0,λd h=>by omega⟩
 case round =>
  clear V0;obtain⟨c,rfl,hc,V1,H1⟩:=hrel;by_cases hlt:c<16384
  ·have i1:(c:Int)<16384:=by omega
   have PK:Hid (Calls prog 21 #[.int .i64 (c:Int)] wr λe w'=>e=.returned (pkV (pkN c))/\Below wr.heap.size wr w'):=rpacket_any c wr hlt;have CA:Hid (∀{W:World},V W->Calls prog 27 #[pkV (pkN c),.pointer (some ⟨nS,0,none⟩),.pointer (some ⟨nA,0,none⟩)] W λe w'=>e=.returned (.bool (σ c))/\Below W.heap.size W w'):=λ{W} h=>CA.out h hlt;have CB:Hid (∀{W:World},V W->Calls prog 27 #[pkV (pkN c),.pointer (some ⟨nS2,0,none⟩),.pointer (some ⟨nA2,0,none⟩)] W λe w'=>e=.returned (.bool (τ c))/\Below W.heap.size W w'):=λ{W} h=>CB.out h hlt;have EN:Hid (∀{k:Int},σ c≠τ c->k=(if σ c then 1 else 2)->bS σ τ (pkN c).s (pkN c).d (pkN c).sp (pkN c).dp k):=λ{k} hne hk=>Or.inr ⟨c,rfl,rfl,rfl,rfl,hk,hlt,hne,H1.out⟩;have ST:Hid (σ c=τ c->∀d,d<c+1->σ d=τ d):=λhe d hd=>by
    by_cases e:d=c
    ·rw[e];exact he
    ·exact H1.out d (by omega)
   clear H1;generalize pkN c=p at *;obtain⟨p0,p1,p2,p3⟩:=p;dsimp only at *;go_wp2_with fail;refine PK.out.mono ?_;rintro e w2⟨rfl,hb2⟩;have V2:=VB.out V1 hb2;have V3:=VB.out V2 (Below.alN (Below.refl _ _) (.cells #[.int .i64 p0,.int .i64 p1,.int .i64 p2,.int .i64 p3] 29));have P3:=i7 w2 #[.int .i64 p0,.int .i64 p1,.int .i64 p2,.int .i64 p3] 29;clear PK hb2 V1 V2;obtain⟨x0,x1,x2,x3,_⟩:=P3.four;have lp:=P3.lt;cases hs:σ c <;> cases ht:τ c
   ·rw[hs]at CA;rw[ht]at CB;have ST2:Hid (∀d,d<c+1->σ d=τ d):=ST.out (hs.trans ht.symm);clear EN FIN ST hs ht;go_wp2_with fail;refine(CA.out V3).mono ?_;rintro e w4⟨rfl,hb4⟩;have V4:=VB.out V3 hb4;have P4:=Bk.keep hb4 P3;clear hb4 V3 P3 x0 x1 x2 x3 lp;obtain⟨x0,x1,x2,x3,_⟩:=P4.four;have lp:=P4.lt;go_wp2_with fail;refine(CB.out V4).mono ?_;rintro e w5⟨rfl,hb5⟩;have V5:=VB.out V4 hb5;have P5:=Bk.keep hb5 P4;clear hb5 V4 P4 x0 x1 x2 x3 lp;obtain⟨x0,x1,x2,x3,_⟩:=P5.four;have lp:=P5.lt;clear CA CB VC VK;go_wp2_with fail;go_roundw
    case rel=>exact⟨c+1,by go_num,by omega,V5,ST2⟩
    case measure=>simp[intOf];omega
   ·rw[hs]at CA;rw[ht]at CB;have EN2:Hid (bS σ τ p0 p1 p2 p3 2):=EN.out (by rw[hs,ht];decide) (by rw[hs];rfl);clear ST EN hs ht;go_wp2_with fail;refine(CA.out V3).mono ?_;rintro e w4⟨rfl,hb4⟩;have V4:=VB.out V3 hb4;have P4:=Bk.keep hb4 P3;clear hb4 V3 P3 x0 x1 x2 x3 lp;obtain⟨x0,x1,x2,x3,_⟩:=P4.four;have lp:=P4.lt;go_wp2_with fail;refine(CB.out V4).mono ?_;rintro e w5⟨rfl,hb5⟩;have V5:=VB.out V4 hb5;have P5:=Bk.keep hb5 P4;clear hb5 V4 P4 x0 x1 x2 x3 lp;obtain⟨x0,x1,x2,x3,_⟩:=P5.four;have lp:=P5.lt;go_wp2_with fail;refine(CA.out V5).mono ?_;rintro e w6⟨rfl,hb6⟩;have V6:=VB.out V5 hb6;have P6:=Bk.keep hb6 P5;clear hb6 V5 P5 x0 x1 x2 x3 lp;obtain⟨x0,x1,x2,x3,_⟩:=P6.four;have lp:=P6.lt;have FF:=Hid.of (FIN.out p0 p1 p2 p3 2 EN2.out V6);obtain⟨lw,z0,z1,z2,z3,zf⟩:=VC.out V6;obtain⟨q0,q1,q2,q3,_⟩:=((VK.out V6).set4 (.int .i64 p0) (.int .i64 p1) (.int .i64 p2) (.int .i64 p3)).four;have q0:=Hid.of q0;have q1:=Hid.of q1;have q2:=Hid.of q2;have q3:=Hid.of q3;clear CA CB VC VK FIN EN2 V6 P6;go_wp2_with fail;refine bodyPost_ret (v:=.tuple #[pk p0 p1 p2 p3,.int .i64 2]) (by simp[results,results28,go_sem,q0.out,q1.out,q2.out,q3.out]) rfl ?_;exact FF.out
   ·rw[hs]at CA;rw[ht]at CB;have EN2:Hid (bS σ τ p0 p1 p2 p3 1):=EN.out (by rw[hs,ht];decide) (by rw[hs];rfl);clear ST EN hs ht;go_wp2_with fail;refine(CA.out V3).mono ?_;rintro e w4⟨rfl,hb4⟩;have V4:=VB.out V3 hb4;have P4:=Bk.keep hb4 P3;clear hb4 V3 P3 x0 x1 x2 x3 lp;obtain⟨x0,x1,x2,x3,_⟩:=P4.four;have lp:=P4.lt;go_wp2_with fail;refine(CB.out V4).mono ?_;rintro e w5⟨rfl,hb5⟩;have V5:=VB.out V4 hb5;have P5:=Bk.keep hb5 P4;clear hb5 V4 P4 x0 x1 x2 x3 lp;obtain⟨x0,x1,x2,x3,_⟩:=P5.four;have lp:=P5.lt;have FF:=Hid.of (FIN.out p0 p1 p2 p3 1 EN2.out V5);obtain⟨lw,z0,z1,z2,z3,zf⟩:=VC.out V5;obtain⟨q0,q1,q2,q3,_⟩:=((VK.out V5).set4 (.int .i64 p0) (.int .i64 p1) (.int .i64 p2) (.int .i64 p3)).four;have q0:=Hid.of q0;have q1:=Hid.of q1;have q2:=Hid.of q2;have q3:=Hid.of q3;clear CA CB VC VK FIN EN2 V5 P5;go_wp2_with fail;refine bodyPost_ret (v:=.tuple #[pk p0 p1 p2 p3,.int .i64 1]) (by simp[results,results28,go_sem,q0.out,q1.out,q2.out,q3.out]) rfl ?_;exact FF.out
   ·rw[hs]at CA;rw[ht]at CB;have ST2:Hid (∀d,d<c+1->σ d=τ d):=ST.out (hs.trans ht.symm);clear EN FIN ST hs ht;go_wp2_with fail;refine(CA.out V3).mono ?_;rintro e w4⟨rfl,hb4⟩;have V4:=VB.out V3 hb4;have P4:=Bk.keep hb4 P3;clear hb4 V3 P3 x0 x1 x2 x3 lp;obtain⟨x0,x1,x2,x3,_⟩:=P4.four;have lp:=P4.lt;go_wp2_with fail;refine(CB.out V4).mono ?_;rintro e w5⟨rfl,hb5⟩;have V5:=VB.out V4 hb5;have P5:=Bk.keep hb5 P4;clear hb5 V4 P4 x0 x1 x2 x3 lp;obtain⟨x0,x1,x2,x3,_⟩:=P5.four;have lp:=P5.lt;go_wp2_with fail;refine(CB.out V5).mono ?_;rintro e w6⟨rfl,hb6⟩;have V6:=VB.out V5 hb6;have P6:=Bk.keep hb6 P5;clear hb6 V5 P5 x0 x1 x2 x3 lp;obtain⟨x0,x1,x2,x3,_⟩:=P6.four;have lp:=P6.lt;go_wp2_with fail;refine(CA.out V6).mono ?_;rintro e w7⟨rfl,hb7⟩;have V7:=VB.out V6 hb7;have P7:=Bk.keep hb7 P6;clear hb7 V6 P6 x0 x1 x2 x3 lp;obtain⟨x0,x1,x2,x3,_⟩:=P7.four;have lp:=P7.lt;clear CA CB VC VK;go_wp2_with fail;go_roundw
    case rel=>exact⟨c+1,by go_num,by omega,V7,ST2⟩
    case measure=>simp[intOf];omega
  ·obtain rfl:c=16384:=by omega
   have FF:=FIN.out 0 0 0 0 0 (Or.inl ⟨rfl,rfl,rfl,rfl,rfl,H1.out⟩) V1;have FF:Hid _:=FF;obtain⟨lw,z0,z1,z2,z3,zf⟩:=VC.out V1;clear CA CB FIN H1 VB VC;obtain⟨q0,q1,q2,q3,_⟩:=((VK.out V1).set4 (.int .i64 0) (.int .i64 0) (.int .i64 0) (.int .i64 0)).four;have q0:=Hid.of q0;have q1:=Hid.of q1;have q2:=Hid.of q2;have q3:=Hid.of q3;clear V1 VK;go_wp2_with fail;refine bodyPost_ret (v:=.tuple #[pk 0 0 0 0,.int .i64 0]) (by simp[results,results28,go_sem,q0.out,q1.out,q2.out,q3.out]) rfl ?_;exact FF.out
theorem sM(a b:Nat)(ha:a<9223372036854775808)(hb:b<9223372036854775808):Go.bits .or .i64 (a:Int) (b:Int)=((a ||| b:Nat):Int):=by
 have e1:BitVec.ofInt 64 (a:Int)=BitVec.ofNat 64 a:=by simp
 have e2:BitVec.ofInt 64 (b:Int)=BitVec.ofNat 64 b:=by simp
 have hle:a ||| b<2 ^ 63:=Nat.or_lt_two_pow ha hb
 have hm:(BitVec.ofNat 64 a ||| BitVec.ofNat 64 b).toNat=a ||| b:=by
  simp[BitVec.toNat_or,Nat.mod_eq_of_lt (show a<18446744073709551616 by omega),Nat.mod_eq_of_lt (show b<18446744073709551616 by omega)]
 show IntKind.i64.wrap ((BitVec.ofInt 64 (a:Int) ||| BitVec.ofInt 64 (b:Int)).toNat:Int)=_;rw[e1,e2,hm,IntWalk.i64_in _ (by omega)]
section
variable {b9 a M b8 c9:Nat}{w:World}{ns:List Nd}
theorem fq(h:Ar b9 a M b8 c9 w ns){f v:Nat}(val:Bool)(hf:f<ns.length)(hv:v<=16) :
  Calls prog 151 #[.pointer (some ⟨a,0,none⟩),.int .i64 (f:Int),.int .i64 (v:Int),.bool val] w λe w'=>e=.returned (.int .i64 (partOf ns f v val:Int))/\Ar b9 a M b8 c9 w' ns/\Kp (ca b9 a M b8 c9) w w':=by
 obtain⟨cap,a0,a1,a2,a3,af,an⟩:=h.reads;obtain⟨n0,n1,n2⟩:=an f hf;have hl:ns.length<=40000:=Nat.le_trans h.le h.most4;have hA1:=h.alloc (.cells #[.int .i64 (nv ns f:Int),.int .i64 (nl ns f:Int),.int .i64 (nh ns f:Int)] 143);have hK1:=Ar.kalloc' h (.cells #[.int .i64 (nv ns f:Int),.int .i64 (nl ns f:Int),.int .i64 (nh ns f:Int)] 143);unfold partOf;clear h an;generalize rowOf w a=g at *;by_cases he:nv ns f=v
 ·subst he;cases val
  ·go_enter func151,ntmps151;go_wp2_with fail;go_ret;exact⟨by simp,hA1,hK1⟩
  ·go_enter func151,ntmps151;go_wp2_with fail;go_ret;exact⟨by simp,hA1,hK1⟩
 ·have he':((nv ns f:Int) !=(v:Int))=true:=by simp;omega
  go_enter func151,ntmps151;go_wp2_with fail;go_ret;exact⟨by simp,hA1,hK1⟩
def kj(b8:Nat)(ns:List Nd)(f g:Nat)(c:Nat)(ok:Bool):Prop :=
 (f=g/\c=0/\ok=false)\/(f≠g/\ok=true/\dK (2 ^ b8) (λc=>ev ns f (envOf b8 c)) (λc=>ev ns g (envOf b8 c)) c)
theorem sN(h:Ar b9 a M b8 c9 w ns){f g:Nat}(hf:f<ns.length)(hg:g<ns.length) :
  Calls prog 106 #[.pointer (some ⟨a,0,none⟩),.int .i64 (f:Int),.int .i64 (g:Int)] w λe w'=>∃(c:Nat) (ok:Bool),e=.returned (.tuple #[.int .i64 (c:Int),.bool ok,.int .i64 0])/\Hd (kj b8 ns f g c ok)/\Ar b9 a M b8 c9 w' ns/\Kp (ca b9 a M b8 c9) w w':=by
 have v16:=h.vars16;have wf:=h.wf;have hl4:ns.length<=40000:=Nat.le_trans h.le h.most4;have t1:(decide ((0:Int)<=(f:Int))&&decide ((f:Int)<(ns.length:Int)))=true:=by simp;omega
 have t2:(decide ((0:Int)<=(g:Int))&&decide ((g:Int)<(ns.length:Int)))=true:=by simp;omega
 have hpw:2 ^ b8<=2 ^ 16:=Nat.pow_le_pow_right (by omega) v16;by_cases hfg:f=g
 ·subst hfg;go_enter func106,ntmps106;go_wp2_with (go_at_call 82;refine(hasFunction_any h (f:Int)).mono ?_;rintro e w'⟨rfl,rfl⟩;rw[t1])
  go_ret3
  exact⟨0,false,rfl,⟨.inl ⟨rfl,rfl,rfl⟩⟩,h,Kp.refl _ _⟩
 ·have tn:((f:Int) ==(g:Int))=false:=by simp;omega
  go_enter func106,ntmps106;go_wp2_with (go_at_call 82;first|((with_reducible refine(hasFunction_any h (f:Int)).mono ?_);rintro e w'⟨rfl,rfl⟩;rw[t1])|((with_reducible refine(hasFunction_any h (g:Int)).mono ?_);rintro e w'⟨rfl,rfl⟩;rw[t2]));go_loopw[1,2,9] (λv1 v2 v9 wr=>∃F G b:Nat,v1=.int .i64 (F:Int)/\v2=.int .i64 (G:Int)/\v9=.int .i64 (b:Int)/\Hd (Dif b8 ns f g F G b)/\Ar b9 a M b8 c9 wr ns/\Kp (ca b9 a M b8 c9) w' wr) (λv1 v2 _ _=>(intOf v1).toNat+(intOf v2).toNat)
  case atStart=>exact⟨f,g,0,rfl,rfl,rfl,⟨Dif.start hf hg hfg⟩,h,Kp.refl _ _⟩
  case round =>
   obtain⟨F,G,b,rfl,rfl,rfl,hD,hA,hK⟩:=hrel;have lF:=hD.out.lF;have lG:=hD.out.lG;by_cases hend:F<=1/\G<=1
   ·have t5:decide ((1:Int)<(F:Int))=false:=by simp;omega
    have t6:decide ((1:Int)<(G:Int))=false:=by simp;omega
    have fin:Hd (kj b8 ns f g b true):=⟨.inr ⟨hfg,rfl,hD.out.fin hend.1 hend.2⟩⟩;go_wp2_with fail
    go_ret3
    exact⟨b,true,rfl,fin,hA,hK⟩
   ·obtain⟨cap,c0,c1,c2,c3,cf,cn⟩:=hA.reads;obtain⟨n0,n1,n2⟩:=cn F lF;obtain⟨m0,m1,m2⟩:=cn G lG;have hvm:min (nv ns F) (nv ns G)<b8:=by
     by_cases q:2<=F
     ·have:=wf.va F q lF;omega
     ·have:=wf.va G (by omega) lG;omega
    have hmn:∀(ts:Array TypeId) (t:TypeId) (W:World),(Builtin.min_ ts t #[.int .i64 (nv ns F:Int),.int .i64 (nv ns G:Int)]).run prog W=.ok (.int .i64 ((min (nv ns F) (nv ns G):Nat):Int)) W:=λts t W=>run_min2 _ _ ts t W;obtain⟨v,hv⟩:∃v,min (nv ns F) (nv ns G)=v:=⟨_,rfl⟩;rw[hv]at hvm;simp only[hv]at hmn;have hv':=Hd.mk hv;have tw:(decide ((1:Int)<(F:Int))=true)\/(decide ((1:Int)<(F:Int))=false/\decide ((1:Int)<(G:Int))=true):=by simp;omega
    clear hv n1 n2 m1 m2 cn;have v16':v<=16:=by omega
    have P1:Hd (∀{W:World},Ar b9 a M b8 c9 W ns->Calls prog 151 #[.pointer (some ⟨a,0,none⟩),.int .i64 (F:Int),.int .i64 (v:Int),.bool false] W λe w'=>e=.returned (.int .i64 (partOf ns F v false:Int))/\Ar b9 a M b8 c9 w' ns/\Kp (ca b9 a M b8 c9) W w'):=⟨λh=>fq h false lF v16'⟩;have P2:Hd (∀{W:World},Ar b9 a M b8 c9 W ns->Calls prog 151 #[.pointer (some ⟨a,0,none⟩),.int .i64 (G:Int),.int .i64 (v:Int),.bool false] W λe w'=>e=.returned (.int .i64 (partOf ns G v false:Int))/\Ar b9 a M b8 c9 w' ns/\Kp (ca b9 a M b8 c9) W w'):=⟨λh=>fq h false lG v16'⟩;have P3:Hd (∀{W:World},Ar b9 a M b8 c9 W ns->Calls prog 151 #[.pointer (some ⟨a,0,none⟩),.int .i64 (F:Int),.int .i64 (v:Int),.bool true] W λe w'=>e=.returned (.int .i64 (partOf ns F v true:Int))/\Ar b9 a M b8 c9 w' ns/\Kp (ca b9 a M b8 c9) W w'):=⟨λh=>fq h true lF v16'⟩;have P4:Hd (∀{W:World},Ar b9 a M b8 c9 W ns->Calls prog 151 #[.pointer (some ⟨a,0,none⟩),.int .i64 (G:Int),.int .i64 (v:Int),.bool true] W λe w'=>e=.returned (.int .i64 (partOf ns G v true:Int))/\Ar b9 a M b8 c9 w' ns/\Kp (ca b9 a M b8 c9) W w'):=⟨λh=>fq h true lG v16'⟩;have D1:Hd (partOf ns F v false≠partOf ns G v false->Dif b8 ns f g (partOf ns F v false) (partOf ns G v false) b):=⟨λq=>hD.out.low wf hvm hv'.out.symm q⟩;have D2:Hd (partOf ns F v false=partOf ns G v false->Dif b8 ns f g (partOf ns F v true) (partOf ns G v true) (b+2 ^ (b8-1-v))):=⟨λq=>hD.out.high wf hvm hv'.out.symm q⟩;have O1:Hd (∀q:Nat,q=2 ^ (b8-1-v)->Go.bits .or .i64 (b:Int) (q:Int)=((b+2 ^ (b8-1-v):Nat):Int)):=⟨λq hq=>by
     have hm:=hD.out.mul;rw[hv'.out]at hm;have h16:2 ^ (b8-1-v)<=2 ^ 16:=Nat.pow_le_pow_right (by omega) (by omega);have hb:=hD.out.lt;rw[sM b q (by omega) (by omega),hq,sI hvm hm]⟩
    have MS:Hd (∀val,partOf ns F v val+partOf ns G v val<F+G):=⟨λval=>by
     have a1:=ki wf lF hvm val;have a2:=ki wf lG hvm val;have a3:=hv'.out;omega⟩
    have lo:Hd (partOf ns F v false+partOf ns G v false<F+G):=⟨MS.out false⟩;have up:Hd (partOf ns F v true+partOf ns G v true<F+G):=⟨MS.out true⟩;clear MS;generalize partOf ns F v false=lf at *;generalize partOf ns G v false=lg at *;generalize partOf ns F v true=uf at *;generalize partOf ns G v true=ug at *;generalize b+2 ^ (b8-1-v)=b2 at *;generalize rowOf wr a=gr at *;have hAd:Ar b9 a M b8 c9 wr.drew ns:=hA.same rfl rfl rfl;have hKd:Kp (ca b9 a M b8 c9) w' wr.drew:=hK.drew;clear hK hA;by_cases hlg:lf=lg
    ·subst hlg;rcases tw with t5|⟨t5,t6⟩
     all_goals
      go_wp2_with fail;go_region;go_wp2_with fail;refine(P1.out hAd).mono ?_;rintro e w1⟨rfl,A1,K1⟩;go_wp2_with fail;refine(P2.out A1).mono ?_;rintro e w2⟨rfl,A2,K2⟩;go_wp2_with fail;refine(P3.out A2).mono ?_;rintro e w3⟨rfl,A3,K3⟩;go_wp2_with fail;refine(P4.out A3).mono ?_;rintro e w4⟨rfl,A4,K4⟩;go_wp2_with fail;refine(bit_q A4 hvm).mono ?_;rintro e w5⟨q,rfl,hq,rfl⟩;have hor:=O1.out q hq.out;go_wp2_with fail;go_roundw
      case rel=>exact⟨uf,ug,b2,rfl,rfl,rfl,⟨D2.out (by first|trivial|rfl)⟩,A4,(((hKd.trans K1).trans K2).trans K3).trans K4⟩
      case measure=>have:=up.out;simp[intOf];omega
    ·have tne:((lf:Int) !=(lg:Int))=true:=by simp;omega
     rcases tw with t5|⟨t5,t6⟩
     all_goals
      go_wp2_with fail;go_region;go_wp2_with fail;refine(P1.out hAd).mono ?_;rintro e w1⟨rfl,A1,K1⟩;go_wp2_with fail;refine(P2.out A1).mono ?_;rintro e w2⟨rfl,A2,K2⟩;go_wp2_with fail;go_roundw
      case rel=>exact⟨lf,lg,b,rfl,rfl,rfl,⟨D1.out hlg⟩,A2,(hKd.trans K1).trans K2⟩
      case measure=>have:=lo.out;simp[intOf];omega
end
def SPostD(E:Prop)(b9 a M c9:Nat)(φ:Env->Bool)(w:World)(ns:List Nd)(e:Ending)(w':World):Prop :=
 ∃(ns':List Nd) (v er:Int),e=.returned (.tuple #[.int .i64 v,.int .i64 er])/\Ar b9 a M 14 c9 w' ns'/\Kp (ca b9 a M 14 c9) w w'/\Ext ns ns' /\
   Hd ((er=0/\∃f:Nat,v=(f:Int)/\f<ns'.length/\∀x,ev ns' f x=φ x)\/(er=6/\v=0/\E))
theorem sO(c:Nat)(w:World)(hc:c<16384) :
  Calls prog 47 #[.int .i64 (c:Int)] w λe w'=>e=.returned (.tuple #[pk ((c / 1024:Nat):Int) ((c / 64 % 16:Nat):Int) ((c / 8 % 8:Nat):Int) ((c % 8:Nat):Int),.int .i64 0])/\Below w.heap.size w w':=by
 have t1:decide ((c:Int)<0)=false:=by simp
 have t2:decide ((16384:Int)<=(c:Int))=false:=by simp;omega
 go_enter func47,ntmps47;go_wp2_with fail;exact bodyPost_ret (v:=.tuple #[pk ((c / 1024:Nat):Int) ((c / 64 % 16:Nat):Int) ((c / 8 % 8:Nat):Int) ((c % 8:Nat):Int),.int .i64 0]) (by simp[results,results47,go_sem]) rfl ⟨rfl,by go_grown⟩
theorem Ar.locOld{b9 a M b8 c9:Nat}{w:World}{ns:List Nd}(h:Ar b9 a M b8 c9 w ns){i:Nat}{cs:Array Value}{t:TypeId}(hi:i<b9)(hb:w.heap[i]?=some (.cells cs t)):Loc (ca b9 a M b8 c9) w i cs t:=by
 obtain⟨_,_,rb,_⟩:=h.row;refine⟨⟨(Array.getElem?_eq_some_iff.1 hb).1,?_,by show i≠rowOf w a;omega⟩,hb⟩;exact h.notMine hi
theorem Loc.four'{C:Cfg}{w:World}{i:Nat}{x y z u:Value}{t:TypeId}(h:Loc C w i #[x,y,z,u] t):(w.cell? ⟨i,0,none⟩=some x/\w.cell? ⟨i,1,none⟩=some y/\w.cell? ⟨i,2,none⟩=some z/\w.cell? ⟨i,3,none⟩=some u)/\(∀j,w.frozen? ⟨i,j,none⟩=false)/\i<w.heap.size:=by
 have hb:=h.blk;refine⟨⟨?_,?_,?_,?_⟩,λj=>by simp[World.frozen?,hb],h.out.lt⟩
 ·rw[cell_of_row w i 0 _ _ _ hb];rfl
 ·rw[cell_of_row w i 1 _ _ _ hb];rfl
 ·rw[cell_of_row w i 2 _ _ _ hb];rfl
 ·rw[cell_of_row w i 3 _ _ _ hb];rfl
abbrev zp:Value:=.agg #[.int .i64 0,.int .i64 0,.int .i64 0,.int .i64 0]
abbrev zc:Obj:=.cells #[.int .i64 0,.int .i64 0,.int .i64 0,.int .i64 0] 29
def BtPost(E:Prop)(φ ψ:Env->Bool)(e:Ending):Prop :=
 (e=.returned (.tuple #[zp,.int .i64 0,.int .i64 6])/\E) \/
 (e=.returned (.tuple #[zp,.int .i64 0,.int .i64 0])/\∀x,φ x=ψ x) \/
 ∃c:Nat,e=.returned (.tuple #[pk ((c / 1024:Nat):Int) ((c / 64 % 16:Nat):Int) ((c / 8 % 8:Nat):Int) ((c % 8:Nat):Int),.int .i64 (if φ (envOf 14 c)then 1 else 2),.int .i64 0])/\dK 16384 (λc=>φ (envOf 14 c)) (λc=>ψ (envOf 14 c)) c
end Go.Proofs.YtppbfikimalojaaGreat
namespace Go.Proofs.YtppbfikimalojaaGreat
open Tryz
open Go.RowKit
theorem sP(nm s:ByteArray)(k ad:Int)(pl:Nat)(vb vr vt:Value)(n0:Nat)(w:World)(hn:n0<w.heap.size)(hc:w.cell? ⟨n0,0,none⟩=some (.string s)) :
  Calls prog 108 #[F9 nm k ad pl vb vr vt,.pointer (some ⟨n0,0,none⟩)] w λe w'=>e=.returned (.bool (nm.toList == s.toList))/\Below w.heap.size w w':=by
 have D0:=Below.alN (Below.refl w.heap.size w) (.cells #[.string nm,.int .i64 k,.int .i64 ad,.int .u8 (pl:Int),vb,vr,vt] 56);have c1:(w.alloc (.cells #[.string nm,.int .i64 k,.int .i64 ad,.int .u8 (pl:Int),vb,vr,vt] 56)).cell? ⟨n0,0,none⟩=some (.string s):=(D0.cell (p:=⟨n0,0,none⟩) hn).trans hc;go_enter func108,ntmps108;go_wp2_with fail;go_ret;exact⟨rfl,D0⟩
theorem sQ(A:Option Addr)(n cap:Nat)(ds:List Dv)(s:ByteArray)(n0:Nat)(w:World)(hD:Hid (Devs w.heap.size w (.slice A n cap) ds))(hn0:n0<w.heap.size)(hc0:Hid (w.cell? ⟨n0,0,none⟩=some (.string s))) :
  Calls prog 107 #[.slice A n cap,.func (.func 108) #[] #[.pointer (some ⟨n0,0,none⟩)]] w λe w'=>e=.returned (.int .i64 (findFrom ds s.toList 0))/\Below w.heap.size w w':=by
 obtain⟨rfl,hc,hm⟩:=hD.out.len;unfold maxLen at hm;generalize hres:findFrom ds s.toList 0=res;have HR:Hid (findFrom ds s.toList 0=res):=hres;clear hres;go_enter func107,ntmps107;go_wp2_with fail;go_loopw[8] (λi wr=>∃k:Nat,i=.int .i64 (k:Int)/\k<=ds.length/\Below w.heap.size w wr/\Hid (findFrom ds s.toList k=res)) (λi _=>ds.length-(intOf i).toNat)
 case atStart=>exact⟨0,rfl,by omega,Below.refl _ _,HR⟩
 case round =>
  obtain⟨k,rfl,hk,D1,hno⟩:=hrel;by_cases hlt:k<ds.length
  ·obtain⟨d,hxk⟩:∃d,ds[k]?=some d:=⟨_,List.getElem?_eq_getElem hlt⟩;obtain⟨b,o,vb,vr,vt,rfl,hb,_,_,_,c0,c1,c2,c3,c4,c5,c6⟩:=(hD.out.below D1).at hxk;have PR:Hid (Calls prog 108 #[F9 d.name d.kind d.addr d.pool vb vr vt,.pointer (some ⟨n0,0,none⟩)] wr λe w'=>e=.returned (.bool (d.name.toList == s.toList))/\Below wr.heap.size wr w'):=sP d.name s d.kind d.addr d.pool vb vr vt n0 wr (Nat.lt_of_lt_of_le hn0 D1.size) ((D1.cell (p:=⟨n0,0,none⟩) hn0).trans hc0.out);have HF:Hid (findFrom ds s.toList k=if d.name.toList == s.toList then(k:Int)else findFrom ds s.toList (k+1)):=cY hxk;have k1:(0:Int)<=(k:Int):=by omega
   have k2:(k:Int)<(ds.length:Int):=by omega
   clear hxk hD HR hc0;generalize (d.name.toList == s.toList)=x at *;generalize d.name=nm at *;generalize d.kind=kd at *;generalize d.addr=ad at *;generalize d.pool=pl at *;cases x
   ·have HV:Hid (findFrom ds s.toList (k+1)=res):=by
     show _=_;rw[<- hno.out,HF.out];simp
    clear HF hno;go_wp2_with fail;refine PR.out.mono ?_;rintro e w2⟨rfl,hb2⟩;have D2:=f7 hb2 D1;clear hb2 D1 c0 c1 c2 c3 c4 c5 c6 PR;go_wp2_with fail;go_roundw
    case rel=>exact⟨k+1,by go_num,by omega,D2,HV⟩
    case measure=>simp[intOf];omega
   ·have HV:Hid (res=(k:Int)):=by
     show _=_;rw[<- hno.out,HF.out];simp
    clear HF hno;go_wp2_with fail;refine PR.out.mono ?_;rintro e w2⟨rfl,hb2⟩;have D2:=f7 hb2 D1;clear hb2 D1 c0 c1 c2 c3 c4 c5 c6 PR;go_wp2_with fail;go_ret;exact⟨by rw[HV.out];rfl,D2⟩
  ·have HV:Hid (res=-1):=by
    show _=_;rw[<- hno.out,fN (by omega)]
   go_wp2_with fail;go_ret;exact⟨by rw[HV.out];rfl,D1⟩
end Go.Proofs.YtppbfikimalojaaGreat
