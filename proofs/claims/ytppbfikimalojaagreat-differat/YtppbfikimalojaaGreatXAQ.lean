/-
  XAQ.
-/
import Derived.Test.YtppbfikimalojaaGreatXAP
import Derived.Test.YtppbfikimalojaaGreatXAO
import Derived.Test.YtppbfikimalojaaGreatXLy
import Derived.BigQuiet
import Derived.Test.YtppbfikimalojaaGreatXAL
import Derived.Deep.RegionHeld3
set_option maxHeartbeats 8000000
set_option maxRecDepth 100000
namespace Go.Proofs.YtppbfikimalojaaGreat
open Tryz
open Go.RowKit Go.Maps
structure SpV(ds:List Dv)(ls:List Lk)(S M:Nat)(bl:(Int × Int)->Option Nat)(T:Tab)(k:Nat)(W:World):Prop where
 S:Bk W S #[.int .i64 (k:Int),.map (some M)] 44
 map:MapAt du dw W M 40 (λt=>(bl t).map some)
 row:∀t b,bl t=some b->RowI W b (T t)
 dom:∀t,(∃b,bl t=some b) ↔ isPl ds t.1 t.2=true
 inv:KInv ds ls T k
 fix:∀t c,isPl ds t.1 t.2=true->c<16384->(l8 ds ls (k+1) t (pkN c) ↔ l8 ds ls k t (pkN c))
def dH(s:Value)(W:World):Nat:=655361-(match s with | .pointer (some a)=>(match W.cell? a with|some v=>(intOf v).toNat|none=>0) | _=>0)
theorem jM{W:World}{kb k:Nat}(h:Bk W kb #[.int .i64 (k:Int)] 3):dH (.pointer (some ⟨kb,0,none⟩)) W=655361-k:=by
 unfold dH;have:=h.one.1;simp[this,intOf]
theorem qP(A L:Option Addr)(cap d8:Nat)(ds:List Dv)(ls:List Lk)(w:World)(hz:Hid (netV ds ls=0))(hD:Hid (Devs w.heap.size w (.slice A ds.length cap) ds))(hL:Hid (Links w.heap.size w (.slice L ls.length d8) ls))
  (DH:Hid (∀(sb S M kb mb:Nat) (bl:(Int × Int)->Option Nat) (T:Tab) (k:Int) (P:d7) (W:World) (i:Nat) (d:Dv),Sx w.heap.size w w.heap.size sb S M kb mb (.slice A ds.length cap) (.slice L ls.length d8) ds ls bl T k P W->0<=k/\k<1000000->ds[i]?=some d->(∀c,c<16384->1<portsV d.kind->wasB T k ((i:Int),1) c=true->(peerF ls (i:Int) 1).isSome=true)->Calls prog 38 #[.pointer (some ⟨S,0,none⟩),.agg #[.slice A ds.length cap,.slice L ls.length d8],.int .i64 (i:Int),.int .i64 k,.func (.func 36) #[] #[.pointer (some ⟨w.heap.size,0,none⟩),.pointer (some ⟨sb,0,none⟩),.pointer (some ⟨kb,0,none⟩),.pointer (some ⟨mb,0,none⟩)]] W λe w'=>e=.returned (.tuple #[])/\Sx w.heap.size w w.heap.size sb S M kb mb (.slice A ds.length cap) (.slice L ls.length d8) ds ls bl T k (un P (S6 d (i:Int) ls T k)) w')) :
  Calls prog 9 #[.agg #[.slice A ds.length cap,.slice L ls.length d8]] w λe w'=>∃(S M:Nat) (bl:(Int × Int)->Option Nat) (T:Tab) (k:Nat),e=.returned (.pointer (some ⟨S,0,none⟩))/\SpV ds ls S M bl T k w'/\Below w.heap.size w w':=by
 have hmm:=@run_makeMap prog;have hlen:=(l7 hz.out).1;have B1:=Below.alN (Below.refl w.heap.size w) (.cells #[.slice A ds.length cap,.slice L ls.length d8] 25);have N1:=i7 w #[.slice A ds.length cap,.slice L ls.length d8] 25;go_enter func9,ntmps9;go_upto_region 2 with fail;have SY0:Sy w.heap.size w w.heap.size (w.heap.size+1+1+1) (w.heap.size+1+1) (w.heap.size+1) (.slice A ds.length cap) (.slice L ls.length d8) ds ls (λ_=>none) (0*4) (aX ds 0 0) (λ_ _=>-1) ((((w.alloc (.cells #[.slice A ds.length cap,.slice L ls.length d8] 25)).alloc (.map #[] 0)).alloc (.cells #[.int .i64 0,.map (some (w.heap.size+1))] 44)).alloc (.cells #[.pointer (some ⟨w.heap.size+1+1,0,none⟩)] 39)):=by
  have M1:MapAt du dw ((w.alloc (.cells #[.slice A ds.length cap,.slice L ls.length d8] 25)).alloc (.map #[] 0)) (w.heap.size+1) 0 (λ_=>none):=by
   have:=tH du dw (w.alloc (.cells #[.slice A ds.length cap,.slice L ls.length d8] 25));rw[World.size_alloc]at this;exact this
  have h2:Below w.heap.size w ((w.alloc (.cells #[.slice A ds.length cap,.slice L ls.length d8] 25)).alloc (.map #[] 0)):=Below.alN B1 _;have h3:Below w.heap.size w _:=Below.alN h2 (.cells #[.int .i64 0,.map (some (w.heap.size+1))] 44);have h4:Below w.heap.size w _:=Below.alN h3 (.cells #[.pointer (some ⟨w.heap.size+1+1,0,none⟩)] 39);refine⟨h4,hD.out.below h4,hL.out.below h4,((N1.alloc _).alloc _).alloc _,E0 _ _ _ _ (by simp),(E0 _ _ _ _ (by simp)).alloc _,?_,(λ_ _ h=>by cases h),(λ_ _ _ h=>by cases h),(λt h=>?_),by omega⟩
  ·refine MapAt.same (w:=(w.alloc (.cells #[.slice A ds.length cap,.slice L ls.length d8] 25)).alloc (.map #[] 0)) M1 ?_;exact((Below.alN (Below.refl _ _) _).block _ (by simp)).trans ((Below.alN (Below.refl _ _) _).block _ (by simp))
  ·have h1:=h.1;have h2:=h.2;unfold isPl at h1;simp only[Bool.and_eq_true,decide_eq_true_eq]at h1;omega
 have HDV:Hid (∀(i:Nat) (d:Dv),ds[i]?=some d->∃b o,A=some ⟨b,o,none⟩/\∀(bl:(Int × Int)->Option Nat) (n:Nat) (D:(Int × Int)->Prop) (T:Tab) (W:World),Sy w.heap.size w w.heap.size (w.heap.size+1+1+1) (w.heap.size+1+1) (w.heap.size+1) (.slice A ds.length cap) (.slice L ls.length d8) ds ls bl n D T W->W.cell? ⟨b,o+i*7+1,none⟩=some (.int .i64 d.kind)/\W.cell? ⟨b,o+i*7+2,none⟩=some (.int .i64 d.addr)):=λi d hd=>by
  obtain⟨b,o,vb,vr,vt,e,hlt,_,_,_,_,c1,c2,_⟩:=hD.out.at hd;exact⟨b,o,e,λbl n D T W hS=>⟨(hS.bel.cell (p:=⟨b,o+i*7+1,none⟩) hlt).trans c1,(hS.bel.cell (p:=⟨b,o+i*7+2,none⟩) hlt).trans c2⟩⟩
 generalize (((w.alloc (.cells #[.slice A ds.length cap,.slice L ls.length d8] 25)).alloc (.map #[] 0)).alloc (.cells #[.int .i64 0,.map (some (w.heap.size+1))] 44)).alloc (.cells #[.pointer (some ⟨w.heap.size+1+1,0,none⟩)] 39)=w1 at *;obtain⟨Y,hY⟩:∃Y:((Int × Int)->Option Nat)->Nat->((Int × Int)->Prop)->Tab->World->Prop,Y=λbl n D T W=>Sy w.heap.size w w.heap.size (w.heap.size+1+1+1) (w.heap.size+1+1) (w.heap.size+1) (.slice A ds.length cap) (.slice L ls.length d8) ds ls bl n D T W:=⟨_,rfl⟩;have Y0:Y (λ_=>none) (0*4) (aX ds 0 0) (λ_ _=>-1) w1:=by rw[hY];exact SY0
 have YC:Hid (∀{bl n D T W},Y bl n D T W->W.cell? ⟨w.heap.size,0,none⟩=some (.slice A ds.length cap)/\W.cell? ⟨w.heap.size,1,none⟩=some (.slice L ls.length d8)/\W.cell? ⟨w.heap.size+1+1+1,0,none⟩=some (.pointer (some ⟨w.heap.size+1+1,0,none⟩))/\W.cell? ⟨w.heap.size+1+1,1,none⟩=some (.map (some (w.heap.size+1)))):=λ{bl n D T W} h=>by
  rw[hY]at h;exact⟨h.n.two.1,h.n.two.2,h.s.one.1,h.S.two.2⟩
 have YB:Hid (∀{bl n D T W W'},Y bl n D T W->Below W.heap.size W W'->Y bl n D T W'):=λ{bl n D T W W'} h hb=>by
  rw[hY]at h ⊢;exact h.grow hb
 have YD:Hid (∀(i:Nat) (d:Dv),ds[i]?=some d->∃b o,A=some ⟨b,o,none⟩/\Hid (∀{bl n D T W},Y bl n D T W->W.cell? ⟨b,o+i*7+1,none⟩=some (.int .i64 d.kind)/\W.cell? ⟨b,o+i*7+2,none⟩=some (.int .i64 d.addr))):=λi d hd=>by
  obtain⟨b,o,e,h⟩:=HDV.out i d hd;exact⟨b,o,e,λ{bl n D T W} hS=>by rw[hY]at hS;exact h _ _ _ _ _ hS⟩
 have YN:Hid (∀{bl n D T W},Y bl n D T W->Y bl n D T (W.alloc (.cells zeroRow 3))/\(∀t,bl t≠some W.heap.size)/\∀j u W',Y bl n D T W'->Y bl n D T (W'.setCell ⟨W.heap.size,j,none⟩ u)):=λ{bl n D T W} h=>by
  rw[hY]at h ⊢;have hr:∀t,bl t≠some W.heap.size:=λt e=>by
   have:=(h.row t _ e).1.lt;omega
  have l1:=h.n.lt;have l2:=h.s.lt;have l3:=h.S.lt;have l4:=h.map.lt;exact⟨h.grow (Below.alN (Below.refl _ _) _),hr,λj u W' h'=>h'.far h.size ⟨by omega,by omega,by omega,by omega⟩ hr u⟩
 have YA:Hid (∀{bl:(Int × Int)->Option Nat} {n:Nat} {D:(Int × Int)->Prop} {W:World} (b:Nat) (t:Int × Int),Y bl n D (λ_ _=>-1) W->n<=100->RowI W b (λ_=>-1)->w.heap.size<=b->isPl ds t.1 t.2=true->(∀t',bl t'≠some b)->∃W',(Instr.mapUpdate 42 (.map (some (w.heap.size+1))) (.agg #[.int .i64 t.1,.int .i64 t.2]) (.slice (some ⟨b,0,none⟩) 16384 16384)).run prog W=.ok () W'/\Y (λt'=>if t'=t then some b else bl t') (n+1) (λt'=>t'=t\/D t') (λ_ _=>-1) W'):=λ{bl n D W} b t h hn hr hb ht hnew=>by
  rw[hY]at h ⊢;exact h.add hn hr hb (rS hlen ht) hnew
 have YW:Hid (∀{bl n n' T W} {D D':(Int × Int)->Prop},Y bl n D T W->n<=n'->(∀t,D' t->D t)->Y bl n' D' T W):=λ{bl n n' T W D D'} h hn hDD=>by
  rw[hY]at h ⊢;exact h.weak hn hDD
 have hmk:=@ro;clear SY0 HDV B1 N1;obtain⟨c0,c1,c2,c3⟩:=YC.out Y0;go_wp2_with fail;go_loopw[4] (λs wr=>∃(i:Nat) (bl:(Int × Int)->Option Nat),s=.int .i64 (i:Int)/\i<=ds.length/\Y bl (i*4) (aX ds i 0) (λ_ _=>-1) wr/\Hid (fp ds bl)) (λs _=>ds.length-(intOf s).toNat)
 case atStart=>exact⟨0,λ_=>none,rfl,by omega,Y0,λ_ _ h=>by cases h⟩
 case round =>
  clear Y0 c0 c1 c2 c3;obtain⟨i,bl,rfl,hi,Y1,HO⟩:=hrel;obtain⟨c0,c1,c2,c3⟩:=YC.out Y1;by_cases hlt:i<ds.length
  ·obtain⟨d,hd⟩:∃d,ds[i]?=some d:=⟨_,List.getElem?_eq_getElem hlt⟩;obtain⟨b,o,rfl,hdc⟩:=YD.out i d hd;have i1:(i:Int)<(ds.length:Int):=by omega
   have i0:(0:Int)<=(i:Int):=by omega
   obtain⟨Pn,hPn,hP4⟩:∃Pn:Nat,portsV d.kind=(Pn:Int)/\Pn<=4:=by
    unfold portsV
    repeat' split
    all_goals first|exact⟨0,rfl,by omega⟩|exact⟨1,rfl,by omega⟩|exact⟨2,rfl,by omega⟩|exact⟨4,rfl,by omega⟩
   have PO:Hid (∀W:World,Calls prog 19 #[.int .i64 d.kind] W λe w'=>e=.returned (.int .i64 (Pn:Int))/\Below W.heap.size W w'):=λW=>by rw[<- hPn];exact aT d.kind W
   have HP:Hid (∀q:Nat,q<Pn->isPl ds (i:Int) (q:Int)=true):=λq hq=>gG hd (by rw[hPn];omega);have HE:Hid (∀t:Int × Int,aX ds (i+1) 0 t->aX ds i Pn t):=λt ht=>⟨ht.1,by
    have h2:=ht.2;by_cases e:t.1<(i:Int)
    ·exact Or.inl e
    ·have e1:t.1=(i:Int):=by
      have h1:=ht.1;unfold isPl at h1;simp only[Bool.and_eq_true,decide_eq_true_eq]at h1;omega
     have h1:=ht.1;rw[e1]at h1;have:=(jX hd h1).2;exact Or.inr ⟨e1,by rw[<- hPn];exact this⟩⟩
   clear hd hPn;go_wp2_with fail;go_loopw[5] (λs wr=>∃(q:Nat) (bl:(Int × Int)->Option Nat),s=.int .i64 (q:Int)/\q<=Pn/\Y bl (i*4+q) (aX ds i q) (λ_ _=>-1) wr/\Hid (fp ds bl)) (λs _=>Pn-(intOf s).toNat)
   case atStart=>exact⟨0,bl,rfl,by omega,Y1,HO⟩
   case round =>
    clear Y1 HO c0 c1 c2 c3;obtain⟨q,bl,rfl,hq,Y2,HO⟩:=hrel;obtain⟨c0,c1,c2,c3⟩:=YC.out Y2;obtain⟨k1,k2⟩:=hdc.out Y2;by_cases hqP:q<Pn
    ·have q1:(q:Int)<(Pn:Int):=by omega
     have hpl:=HP.out q hqP;go_wp2_with fail;refine(PO.out _).mono ?_;rintro e w3⟨rfl,hb3⟩;have Y3:=YB.out Y2 hb3;clear Y2 hb3 c0 c1 c2 c3 k1 k2;obtain⟨Y4,hnew,hfar⟩:=YN.out Y3;have R4:=rq w3;have hb0:w.heap.size<=w3.heap.size:=by
      rw[hY]at Y3;exact Y3.size
     go_upto_region 9 with fail;generalize w3.alloc (.cells zeroRow 3)=w4 at *;generalize w3.heap.size=nb at *;have hfar:=Hid.of hfar;clear Y3;go_wp2_with fail;go_loopw[7] (λs wr=>∃c:Nat,s=.int .i64 (c:Int)/\c<=16384/\Y bl (i*4+q) (aX ds i q) (λ_ _=>-1) wr/\RowI wr nb (λc'=>if c'<c then -1 else 0)) (λs _=>16384-(intOf s).toNat)
     case atStart=>exact⟨0,rfl,by omega,Y4,R4.congr (λc _=>by simp)⟩
     case round =>
      clear Y4 R4;obtain⟨c,rfl,hc,Y5,R5⟩:=hrel;by_cases hcl:c<16384
      ·have c1':(c:Int)<16384:=by omega
       have c0':(0:Int)<=(c:Int):=by omega
       have cc:=R5.cell hcl;have cf:=R5.fz c;have Y6:=hfar.out c (.int .i64 (-1)) _ Y5;have R6:RowI (wr.setCell ⟨nb,c,none⟩ (.int .i64 (-1))) nb (λc'=>if c'<c+1 then -1 else 0):=(R5.set hcl (-1)).congr (λc' _=>by
        by_cases e:c'=c
        ·subst e;rw[if_pos rfl,if_pos (by omega)]
        ·rw[if_neg e];by_cases e2:c'<c
         ·rw[if_pos e2,if_pos (by omega)]
         ·rw[if_neg e2,if_neg (by omega)])
       rw[if_neg (by omega)]at cc;clear Y5 R5;go_wp2_with fail;go_roundw
       case rel=>exact⟨c+1,by go_num,by omega,Y6,R6⟩
       case measure=>first|omega|(simp[intOf];omega)|simp[intOf]
      ·have hce:c=16384:=by omega
       have c1':¬(c:Int)<16384:=by omega
       have R6:RowI wr nb (λ_=>-1):=R5.congr (λc' h=>by rw[if_pos (by omega)]);obtain⟨W7,hrun,Y7⟩:=YA.out nb ((i:Int),(q:Int)) Y5 (by omega) R6 hb0 hpl hnew;have Y8:=YW.out (n':=i*4+(q+1)) (D':=aX ds i (q+1)) Y7 (by omega) (λt ht=>by
        by_cases e:t=((i:Int),(q:Int))
        ·exact Or.inl e
        ·refine Or.inr ⟨ht.1,?_⟩;have h2:=ht.2;by_cases e2:t.1=(i:Int)
         ·have:t.2≠(q:Int):=λe3=>e (Prod.ext e2 e3);omega
         ·omega)
       have HO8:Hid (fp ds (λt'=>if t'=((i:Int),(q:Int))then some nb else bl t')):=λt b' e=>by
        by_cases e':t=((i:Int),(q:Int))
        ·subst e';exact hpl
        ·dsimp only at e;rw[if_neg e']at e;exact HO.out t b' e
       obtain⟨c0,c1,c2,c3⟩:=YC.out Y5;clear Y7 Y5 R5 R6 hce HO;go_wp2_with fail;go_roundw
       case rel=>exact⟨q+1,_,by go_num,by omega,Y8,HO8⟩
       case measure=>first|omega|(simp[intOf];omega)|simp[intOf]
    ·obtain rfl:q=Pn:=by omega
     have hqn:¬(q:Int)<(q:Int):=by omega
     go_wp2_with fail;refine(PO.out _).mono ?_;rintro e w'⟨rfl,hb'⟩;have Y3:=YW.out (YB.out Y2 hb') (show i*4+q<=(i+1)*4 by omega) HE.out;clear Y2 hb' c0 c1 c2 c3 k1 k2;go_wp2_with fail;go_roundw
     case rel=>exact⟨i+1,bl,by go_num,by omega,Y3,HO⟩
     case measure=>first|omega|(simp[intOf];omega)|simp[intOf]
  ·obtain rfl:i=ds.length:=by omega
   have hin:¬(ds.length:Int)<(ds.length:Int):=by omega
   have Y2:Y bl 40 (λt=>isPl ds t.1 t.2=true) (o5 ds ls 0 0) wr:=by
    rw[rT];refine YW.out Y1 (by omega) λt ht=>⟨ht,Or.inl ?_⟩;unfold isPl at ht;simp only[Bool.and_eq_true,decide_eq_true_eq]at ht;omega
   clear Y1 YA YN hmk hi;have YP:Hid (∀(i:Nat) (d:Dv) (tq:Int × Int),ds[i]?=some d->d.kind=1->peerF ls (i:Int) 0=some tq->∃b,bl tq=some b/\∀(c cc:Nat) (W:World),c<1024->(cc:Int)=d.addr*1024+(c:Int)->Y bl 40 (λt=>isPl ds t.1 t.2=true) (o5 ds ls i c) W->((Instr.lookup 42 (.map (some (w.heap.size+1))) (.agg #[.int .i64 tq.1,.int .i64 tq.2]) false).run prog W=.ok (.slice (some ⟨b,0,none⟩) 16384 16384) W)/\(∃r,W.cell? ⟨b,cc,none⟩=some (.int .i64 r))/\W.frozen? ⟨b,cc,none⟩=false/\Y bl 40 (λt=>isPl ds t.1 t.2=true) (o5 ds ls i (c+1)) (W.setCell ⟨b,cc,none⟩ (.int .i64 0))/\(∀{j:Nat} {cs:Array Value} {ty:TypeId},Bk W j cs ty->cs.size=2->Bk (W.setCell ⟨b,cc,none⟩ (.int .i64 0)) j cs ty)/\((Instr.lookup 42 (.map (some (w.heap.size+1))) (.agg #[.int .i64 tq.1,.int .i64 tq.2]) false).run prog (W.setCell ⟨b,cc,none⟩ (.int .i64 0))=.ok (.slice (some ⟨b,0,none⟩) 16384 16384) (W.setCell ⟨b,cc,none⟩ (.int .i64 0)))):=λi d tq hd hk hp=>by
    have ha:=(bi (aD hz.out d (List.mem_of_getElem? hd))).2.1;have hpl:=jR hz.out hp;obtain⟨b,hb⟩:∃b,bl tq=some b:=by
     rw[hY]at Y2;exact Y2.dom tq hpl
    refine⟨b,hb,λc cc W hc hcc h=>?_⟩;rw[hY]at h ⊢;have hr:=(h.row tq b hb).1;have hcl:cc<16384:=by omega
    refine⟨h.look hb,⟨_,hr.cell hcl⟩,hr.fz cc,h.put hb hcl 0 (jY hd hk hp hc hcc),λ{j cs ty} hB hs=>?_,(h.put hb hcl 0 (jY hd hk hp hc hcc)).look hb⟩;refine(Below.heap_setCell W ⟨b,cc,none⟩ _ j (λe=>?_)).trans hB;have e:j=b:=e;subst e;obtain⟨cs',h1,h2,_⟩:=hr;have:=h1.symm.trans hB;simp only[Option.some.injEq,Obj.cells.injEq]at this;rw[this.1]at h2;omega
   obtain⟨c0,c1,c2,c3⟩:=YC.out Y2;go_wp2_with fail;go_loopw[8] (λs wr=>∃i:Nat,s=.int .i64 (i:Int)/\i<=ds.length/\Y bl 40 (λt=>isPl ds t.1 t.2=true) (o5 ds ls i 0) wr) (λs _=>ds.length-(intOf s).toNat)
   case atStart=>exact⟨0,rfl,by omega,Y2⟩
   case round =>
    clear Y2 c0 c1 c2 c3;obtain⟨i,rfl,hi,Y3⟩:=hrel;obtain⟨c0,c1,c2,c3⟩:=YC.out Y3;by_cases hlt:i<ds.length
    ·obtain⟨d,hd⟩:∃d,ds[i]?=some d:=⟨_,List.getElem?_eq_getElem hlt⟩;obtain⟨b,o,rfl,hdc⟩:=YD.out i d hd;have i1:(i:Int)<(ds.length:Int):=by omega
     have i0:(0:Int)<=(i:Int):=by omega
     have ha:=(bi (aD hz.out d (List.mem_of_getElem? hd))).2.1;have PE:Hid (∀W,Below w.heap.size w W->Calls prog 35 #[.agg #[.slice (some ⟨b,o,none⟩) ds.length cap,.slice L ls.length d8],.agg #[.int .i64 (i:Int),.int .i64 0]] W λe w'=>e=.returned (.tuple #[E9 (peerF ls i 0),.bool (peerF ls i 0).isSome])/\Below W.heap.size W w'):=λW hb=>rpeer_any (.slice (some ⟨b,o,none⟩) ds.length cap) L ls.length d8 ls i 0 W ((hL.out.below hb).mono hb.size);have Bw:Below w.heap.size w wr:=by
      rw[hY]at Y3;exact Y3.bel
     have hskip:¬(d.kind=1/\(peerF ls (i:Int) 0).isSome=true)->o5 ds ls i 0=o5 ds ls (i+1) 0:=λh=>rU λd' hd'=>by
      rw[hd]at hd';cases hd';exact h
     have PE:=PE.out wr Bw;cases hpe:peerF ls (i:Int) 0 with
     | none =>
       rw[hpe]at PE hskip;have HT:=Hid.of (hskip (λh=>by cases h.2));clear hskip hd ha hpe;go_wp2_with fail;refine PE.mono ?_;rintro e w4⟨rfl,hb4⟩;have Y4:=YB.out (YB.out Y3 hb4) (Below.alN (Below.refl _ _) (.cells #[.int .i64 0,.int .i64 0] 27));rw[HT.out]at Y4;clear PE Y3 hb4 Bw c0 c1 c2 c3 hdc;go_wp2_with fail;go_roundw
       case rel=>exact⟨i+1,by go_num,by omega,Y4⟩
       case measure=>first|omega|(simp[intOf];omega)|simp[intOf]
     | some tq =>
       obtain⟨t1,t2⟩:=tq;rw[hpe]at PE;by_cases hk1:d.kind=1
       ·have f1:(d.kind == 1)=true:=by simpa using hk1
        obtain⟨rb,hrb,HP⟩:=YP.out i d (t1,t2) hd hk1 hpe;have HP:=Hid.of HP;clear hskip hd hk1 hpe hrb;go_wp2_with fail;refine PE.mono ?_;rintro e w4⟨rfl,hb4⟩;have Y4:=YB.out (YB.out Y3 hb4) (Below.alN (Below.refl _ _) (.cells #[.int .i64 t1,.int .i64 t2] 27));have Z4:=i7 w4 #[.int .i64 t1,.int .i64 t2] 27;clear PE Y3 hb4 Bw c0 c1 c2 c3;go_upto_region 18 with fail;generalize w4.alloc (.cells #[.int .i64 t1,.int .i64 t2] 27)=w5 at *;generalize w4.heap.size=z at *;obtain⟨c0,c1,c2,c3⟩:=YC.out Y4;obtain⟨k1,k2⟩:=hdc.out Y4;go_wp2_with fail;go_loopw[11] (λs wr=>∃c:Nat,s=.int .i64 (c:Int)/\c<=1024/\Y bl 40 (λt=>isPl ds t.1 t.2=true) (o5 ds ls i c) wr/\Bk wr z #[.int .i64 t1,.int .i64 t2] 27) (λs _=>1024-(intOf s).toNat)
        case atStart=>exact⟨0,rfl,by omega,Y4,Z4⟩
        case round =>
         clear Y4 Z4 c0 c1 c2 c3 k1 k2;obtain⟨c,rfl,hc,Y5,Z5⟩:=hrel;by_cases hcl:c<1024
         ·have x1:(c:Int)<1024:=by omega
          obtain⟨cc,hcc⟩:∃cc:Nat,(cc:Int)=d.addr*1024+(c:Int):=⟨(d.addr*1024+(c:Int)).toNat,by omega⟩;have wr1:IntKind.i64.wrap (d.addr*1024)=d.addr*1024:=IntWalk.i64_in _ (by omega);have wr2:IntKind.i64.wrap (d.addr*1024+(c:Int))=(cc:Int):=by rw[hcc];exact IntWalk.i64_in _ (by omega)
          have cc0:(0:Int)<=(cc:Int):=by omega
          have cc1:(cc:Int)<16384:=by omega
          have Y5d:=YB.out Y5 (Below.refl _ _).drew;have Z5d:=Bk.keep (Below.refl wr.heap.size wr).drew Z5;obtain⟨L1,⟨r,L2⟩,L3,Y6,Z6,L4⟩:=HP.out c cc _ hcl hcc Y5d;have Z7:=Z6 Z5d rfl;clear Z6 Y5 Z5 hcc;obtain⟨c0,c1,c2,c3⟩:=YC.out Y5d;obtain⟨k1,k2⟩:=hdc.out Y5d;obtain⟨z0,z1⟩:=Z5d.two;have L2':wr.cell? ⟨rb,cc,none⟩=some (.int .i64 r):=L2;have L3':wr.frozen? ⟨rb,cc,none⟩=false:=L3;go_upto_region 22 with fail;refine wp_region_held_drew (S:=λW'=>W'.cell? ⟨w.heap.size,0,none⟩=some (.slice (some ⟨b,o,none⟩) ds.length cap)/\W'.cell? ⟨w.heap.size+1+1+1,0,none⟩=some (.pointer (some ⟨w.heap.size+1+1,0,none⟩))/\W'.cell? ⟨w.heap.size+1+1,1,none⟩=some (.map (some (w.heap.size+1)))/\W'.cell? ⟨b,o+i*7+2,none⟩=some (.int .i64 d.addr)/\W'.cell? ⟨z,0,none⟩=some (.int .i64 t1)/\W'.cell? ⟨z,1,none⟩=some (.int .i64 t2)/\(Instr.lookup 42 (.map (some (w.heap.size+1))) (.agg #[.int .i64 t1,.int .i64 t2]) false).run prog W'=.ok (.slice (some ⟨rb,0,none⟩) 16384 16384) W') (by kernel_rfl) ⟨c0,c2,c3,k2,z0,z1,L1⟩ (λhHeld=>?_);refine tk 0 ?_;try simp only[ly]
          refine tk 1 ?_;try simp only[ly]
          refine tk 2 ?_;try simp only[ly]
          refine tk 3 ?_;try simp only[ly]
          refine tk 4 ?_;try simp only[ly]
          refine tk 5 ?_;try simp only[ly]
          refine tk 6 ?_;try simp only[ly]
          refine tk 7 ?_;try simp only[ly]
          refine tk 8 ?_;try simp only[ly]
          refine tk 9 ?_;try simp only[ly]
          refine tk 10 ?_;try simp only[ly]
          refine tk 11 ?_;try simp only[ly]
          refine tk 12 ?_;try simp only[ly]
          refine tk 13 ?_;try simp only[ly]
          refine tk 14 ?_;try simp only[ly]
          refine tk 15 ?_;try simp only[ly]
          refine rd 16 (λK hK=>?_);go_simp;clear hHeld;obtain⟨c0',c1',c2',c3'⟩:=YC.out Y6;refine hK.out _ _ ⟨c0',c2',c3',(hdc.out Y6).2,Z7.two.1,Z7.two.2,L4⟩ (λhHeld=>?_);clear hK K;refine wpAnyH_done (by kernel_rfl) ?_ _;have Y7:Y bl 40 (λt=>isPl ds t.1 t.2=true) (o5 ds ls i (c+1)) (wr.setCell ⟨rb,cc,none⟩ (.int .i64 0)).drew:=Y6;have Z8:Bk (wr.setCell ⟨rb,cc,none⟩ (.int .i64 0)).drew z #[.int .i64 t1,.int .i64 t2] 27:=Z7;generalize (wr.setCell ⟨rb,cc,none⟩ (.int .i64 0)).drew=wq at *;clear Y6 Z7 Y5d Z5d L1 L2 L2' L3 L3' L4 c0 c1 c2 c3 c0' c1' c2' c3' k1 k2 z0 z1;go_wp2_with fail;go_roundw
          case rel=>exact⟨c+1,by go_num,by omega,Y7,Z8⟩
          case measure=>first|omega|(simp[intOf];omega)|simp[intOf]
         ·have hce:c=1024:=by omega
          have x1:¬(c:Int)<1024:=by omega
          have Y6:Y bl 40 (λt=>isPl ds t.1 t.2=true) (o5 ds ls (i+1) 0) wr:=by
           rw[hce,rV]at Y5;exact Y5
          clear Y5 Z5 hce;go_wp2_with fail;go_roundw
          case rel=>exact⟨i+1,by go_num,by omega,Y6⟩
          case measure=>first|omega|(simp[intOf];omega)|simp[intOf]
       ·have f1:(d.kind == 1)=false:=by simpa using hk1
        have HT:=Hid.of (hskip (λh=>hk1 h.1));clear hskip hd ha hpe hk1;go_wp2_with fail;refine PE.mono ?_;rintro e w4⟨rfl,hb4⟩;have Y4:=YB.out (YB.out Y3 hb4) (Below.alN (Below.refl _ _) (.cells #[.int .i64 t1,.int .i64 t2] 27));clear PE Y3 hb4 Bw c0 c1 c2 c3;go_upto_region 18 with fail;generalize w4.alloc (.cells #[.int .i64 t1,.int .i64 t2] 27)=w5 at *;obtain⟨c0,c1,c2,c3⟩:=YC.out Y4;obtain⟨k1,k2⟩:=hdc.out Y4;rw[HT.out]at Y4;clear HT;go_wp2_with fail;go_roundw
        case rel=>exact⟨i+1,by go_num,by omega,Y4⟩
        case measure=>first|omega|(simp[intOf];omega)|simp[intOf]
    ·obtain rfl:i=ds.length:=by omega
     have hin2:¬(ds.length:Int)<(ds.length:Int):=by omega
     have KI0:Hid (KInv ds ls (o5 ds ls ds.length 0) 0):=se hz.out;have Y4:=YB.out Y3 (Below.alN (Below.refl _ _) (.cells #[.int .i64 0] 3));have K4:=i7 wr #[.int .i64 0] 3;clear YP YW hi;have XD:Hid (∀{kb mb:Nat} {T:Tab} {k:Nat} {P:d7} {W:World} {i:Nat} {d:Dv},Sx w.heap.size w w.heap.size (w.heap.size+1+1+1) (w.heap.size+1+1) (w.heap.size+1) kb mb (.slice A ds.length cap) (.slice L ls.length d8) ds ls bl T (k:Int) P W->KInv ds ls T k->k<1000000->ds[i]?=some d->Calls prog 38 #[.pointer (some ⟨w.heap.size+1+1,0,none⟩),.agg #[.slice A ds.length cap,.slice L ls.length d8],.int .i64 (i:Int),.int .i64 (k:Int),.func (.func 36) #[] #[.pointer (some ⟨w.heap.size,0,none⟩),.pointer (some ⟨w.heap.size+1+1+1,0,none⟩),.pointer (some ⟨kb,0,none⟩),.pointer (some ⟨mb,0,none⟩)]] W λe w'=>e=.returned (.tuple #[])/\Sx w.heap.size w w.heap.size (w.heap.size+1+1+1) (w.heap.size+1+1) (w.heap.size+1) kb mb (.slice A ds.length cap) (.slice L ls.length d8) ds ls bl T (k:Int) (un P (S6 d (i:Int) ls T (k:Int))) w'):=λ{kb mb T k P W i d} hx hki hk hd=>DH.out _ _ _ _ _ _ _ _ _ _ i d hx ⟨by omega,by omega⟩ hd (λc hc hp hw=>sj hz.out hki (gG (q:=1) hd hp) hc hw);clear DH;go_wp2_with fail;go_loopw[12] (λs wr=>∃(k kb:Nat) (T:Tab),s=.pointer (some ⟨kb,0,none⟩)/\Y bl 40 (λt=>isPl ds t.1 t.2=true) T wr/\Bk wr kb #[.int .i64 (k:Int)] 3/\Hid (KInv ds ls T k)) dH
     case atStart=>exact⟨0,_,_,rfl,Y4,K4,KI0⟩
     case round =>
      clear Y4 K4 KI0 Y3 c0 c1 c2 c3;obtain⟨k,kb,T,rfl,Y5,K5,HK⟩:=hrel;have Y6:=YB.out Y5 (Below.alN (Below.refl _ _) (.cells #[.bool false] 4));have K6:=K5.alloc (.cells #[.bool false] 4);have M6:=i7 wr #[.bool false] 4;have hk6:k<1000000:=by
       have:=HK.out.few;omega
      have hlo:w.heap.size<=wr.heap.size:=by
       rw[hY]at Y5;exact Y5.size
      obtain⟨X,hX⟩:∃X:d7->World->Prop,X=λP W=>Sx w.heap.size w w.heap.size (w.heap.size+1+1+1) (w.heap.size+1+1) (w.heap.size+1) kb wr.heap.size (.slice A ds.length cap) (.slice L ls.length d8) ds ls bl T (k:Int) P W:=⟨_,rfl⟩;have X6:X (Jq9 ds ls T (k:Int) 0) (wr.alloc (.cells #[.bool false] 4)):=by
       rw[rW,hX];rw[hY]at Y6;exact Y6.toX K6 M6 hlo
      have XC:Hid (∀{P:d7} {W:World},X P W->W.cell? ⟨w.heap.size,0,none⟩=some (.slice A ds.length cap)/\W.cell? ⟨w.heap.size,1,none⟩=some (.slice L ls.length d8)/\W.cell? ⟨w.heap.size+1+1+1,0,none⟩=some (.pointer (some ⟨w.heap.size+1+1,0,none⟩))/\W.cell? ⟨kb,0,none⟩=some (.int .i64 (k:Int))/\W.cell? ⟨wr.heap.size,0,none⟩=some (.bool (G0 bl T P))/\W.cell? ⟨w.heap.size+1+1,0,none⟩=some (.int .i64 0)/\W.frozen? ⟨w.heap.size+1+1,0,none⟩=false):=λ{P W} h=>by
       rw[hX]at h;exact⟨h.n.two.1,h.n.two.2,h.s.one.1,h.k.one.1,h.m.one.1,h.S.two.1,h.S.fz 0⟩
      have XE:Hid (∀{P:d7} {W:World} {i:Nat} {d:Dv},X P W->ds[i]?=some d->Calls prog 38 #[.pointer (some ⟨w.heap.size+1+1,0,none⟩),.agg #[.slice A ds.length cap,.slice L ls.length d8],.int .i64 (i:Int),.int .i64 (k:Int),.func (.func 36) #[] #[.pointer (some ⟨w.heap.size,0,none⟩),.pointer (some ⟨w.heap.size+1+1+1,0,none⟩),.pointer (some ⟨kb,0,none⟩),.pointer (some ⟨wr.heap.size,0,none⟩)]] W λe w'=>e=.returned (.tuple #[])/\X (un P (S6 d (i:Int) ls T (k:Int))) w'):=λ{P W i d} h hd=>by
       rw[hX]at h ⊢;exact XD.out h HK.out hk6 hd
      have XT:Hid (∀{W:World},X (Jq9 ds ls T (k:Int) ds.length) W->G0 bl T (Jq9 ds ls T (k:Int) ds.length)=true->Y bl 40 (λt=>isPl ds t.1 t.2=true) (tabP T (k:Int) (Jq9 ds ls T (k:Int) ds.length)) W/\KInv ds ls (tabP T (k:Int) (Jq9 ds ls T (k:Int) ds.length)) (k+1)):=λ{W} h hm=>by
       rw[hX]at h;rw[hY];exact⟨h.toY (by omega),sg hz.out HK.out HO.out hm⟩
      have XF:Hid (∀{W:World},X (Jq9 ds ls T (k:Int) ds.length) W->G0 bl T (Jq9 ds ls T (k:Int) ds.length)=false->SpV ds ls (w.heap.size+1+1) (w.heap.size+1) bl T k (W.setCell ⟨w.heap.size+1+1,0,none⟩ (.int .i64 (k:Int)))/\Below w.heap.size w (W.setCell ⟨w.heap.size+1+1,0,none⟩ (.int .i64 (k:Int)))/\(W.setCell ⟨w.heap.size+1+1,0,none⟩ (.int .i64 (k:Int))).cell? ⟨w.heap.size+1+1+1,0,none⟩=some (.pointer (some ⟨w.heap.size+1+1,0,none⟩))):=λ{W} h hm=>by
       rw[hX]at h;have ht:tabP T (k:Int) (Jq9 ds ls T (k:Int) ds.length)=tabP T (k:Int) (Jq9 ds ls T (k:Int) ds.length):=rfl;have hrow:∀t b,bl t=some b->RowI W b (T t):=λt b hb=>by
        refine(h.row t b hb).1.congr λc hc=>?_;unfold tabP;rw[if_neg];rintro⟨h1,h2⟩;exact @of_decide_eq_false _ (Classical.propDecidable _) hm ⟨t,c,by rw[hb];rfl,hc,h1,h2⟩
       have h1:∀j,j≠w.heap.size+1+1->(W.setCell ⟨w.heap.size+1+1,0,none⟩ (.int .i64 (k:Int))).heap[j]?=W.heap[j]?:=λj e=>Below.heap_setCell W ⟨w.heap.size+1+1,0,none⟩ _ j e;refine⟨⟨?_,h.map.same (h1 _ (by omega)),λt b hb=>(hrow t b hb).same (h1 _ (hrow t b hb |>.ne2 h.S)),λt=>⟨λ⟨b,hb⟩=>HO.out t b hb,h.dom t⟩,HK.out,si hz.out HK.out h.dom hm⟩,h.bel.trans ((Below.refl _ W).setCell (p:=⟨w.heap.size+1+1,0,none⟩) (by show w.heap.size<=w.heap.size+1+1;omega) _),?_⟩
       ·have:=Bk.setS (j:=0) h.S (.int .i64 (k:Int));simpa using this
       ·have:Bk (W.setCell ⟨w.heap.size+1+1,0,none⟩ (.int .i64 (k:Int))) (w.heap.size+1+1+1) #[.pointer (some ⟨w.heap.size+1+1,0,none⟩)] 39:=(h1 _ (by omega)).trans h.s;exact this.one.1
      have kw:IntKind.i64.wrap ((k:Int)+1)=((k+1:Nat):Int):=by
       rw[show((k+1:Nat):Int)=(k:Int)+1 by omega];exact IntWalk.i64_in _ (by omega)
      have HMs:Hid (∀(W':World) (kb':Nat) (T':Tab),Bk W' kb' #[.int .i64 ((k+1:Nat):Int)] 3->KInv ds ls T' (k+1)->dH (.pointer (some ⟨kb',0,none⟩)) W'<dH (.pointer (some ⟨kb,0,none⟩)) wr):=λW' kb' T' hB hK=>by
       have:=hK.few;rw[jM hB,jM K5];omega
      clear hX Y5 Y6 K6 M6 HK XD;go_upto_region 27 with fail;generalize wr.alloc (.cells #[.bool false] 4)=w6 at *;obtain⟨x0,x1,x2,x3,x4,x5,x6⟩:=XC.out X6;go_wp2_with fail;go_loopw[15] (λs wq=>∃i:Nat,s=.int .i64 (i:Int)/\i<=ds.length/\X (Jq9 ds ls T (k:Int) i) wq) (λs _=>ds.length-(intOf s).toNat)
      case atStart=>exact⟨0,rfl,by omega,X6⟩
      case round =>
       clear X6 x0 x1 x2 x3 x4 x5 x6;obtain⟨i,rfl,hi,X7⟩:=hrel;obtain⟨x0,x1,x2,x3,x4,x5,x6⟩:=XC.out X7;by_cases hlt:i<ds.length
       ·have i1:(i:Int)<(ds.length:Int):=by omega
        obtain⟨d,hd⟩:∃d,ds[i]?=some d:=⟨_,List.getElem?_eq_getElem hlt⟩;have CD:=XE.out X7 hd;rw[rX hd]at CD;clear hd;go_wp2_with fail;refine CD.mono ?_;rintro e w8⟨rfl,X8⟩;clear CD X7 x0 x1 x2 x3 x4 x5 x6;go_wp2_with fail;go_roundw
        case rel=>exact⟨i+1,by go_num,by omega,X8⟩
        case measure=>first|omega|(simp[intOf];omega)|simp[intOf]
       ·have hie:i=ds.length:=by omega
        have i1:¬(i:Int)<(ds.length:Int):=by omega
        rw[hie]at X7 x4;cases hm:G0 bl T (Jq9 ds ls T (k:Int) ds.length)with
        | true =>
          rw[hm]at x4;obtain⟨Y9,KI⟩:=XT.out X7 hm;have KI:=Hid.of KI;clear XT XF XE hm hie;have Y10:=YB.out Y9 (Below.alN (Below.refl _ _) (.cells #[.int .i64 ((k+1:Nat):Int)] 3));have K10:=Hid.of (i7 wr #[.int .i64 ((k+1:Nat):Int)] 3);have HM:=Hid.of (HMs.out _ _ _ K10.out KI.out);have kw2:IntKind.i64.wrap ((k:Int)+1)=(k:Int)+1:=IntWalk.i64_in _ (by omega);clear X7 Y9 kw HMs;generalize tabP T (k:Int) (Jq9 ds ls T (k:Int) ds.length)=T2 at *;go_wp2_with fail;go_roundw
          case rel=>exact⟨k+1,_,_,rfl,Y10,K10.out,KI⟩
          case measure=>exact HM.out
        | false =>
          rw[hm]at x4;obtain⟨S9,B9,s9⟩:=XF.out X7 hm;clear XT XF XE hm hie;go_wp2_with fail;go_ret;exact⟨_,rfl,⟨_,_,_,_,S9⟩,B9⟩
theorem qQ(n:Int):(decide ((0:Int)<=n)&&decide (n<=15))=adB n:=by
 unfold adB;rw[show decide (n<=15)=decide (n<16) by rw[decide_eq_decide];omega]
theorem qR(n:Int):(decide ((0:Int)<=n)&&decide (n<=7))=poB n:=by
 unfold poB;rw[show decide (n<=7)=decide (n<8) by rw[decide_eq_decide];omega]
theorem jN(p:Pk)(w:World):Calls prog 43 #[pkV p] w λe w'=>e=.returned (.bool (i8 p))/\Below w.heap.size w w':=by
 have D1:=Below.alN (Below.refl w.heap.size w) (.cells #[.int .i64 p.s,.int .i64 p.d,.int .i64 p.sp,.int .i64 p.dp] 29);have X1:=i7 w #[.int .i64 p.s,.int .i64 p.d,.int .i64 p.sp,.int .i64 p.dp] 29;have IA:Hid (∀(n:Int) W,Calls prog 8 #[.int .i64 n,.int .i64 0,.int .i64 15] W λe w'=>e=.returned (.bool (adB n))/\w'=W):=λn W=>by
  have:=aJ n 0 15 W;rw[qQ]at this;exact this
 have IP:Hid (∀(n:Int) W,Calls prog 8 #[.int .i64 n,.int .i64 0,.int .i64 7] W λe w'=>e=.returned (.bool (poB n))/\w'=W):=λn W=>by
  have:=aJ n 0 7 W;rw[qR]at this;exact this
 obtain⟨x0,x1,x2,x3,_⟩:=X1.four;obtain⟨s,d,sp,dp⟩:=p;unfold i8;dsimp only at *;have I0:Hid (∀W,Calls prog 8 #[.int .i64 s,.int .i64 0,.int .i64 15] W λe w'=>e=.returned (.bool (adB s))/\w'=W):=IA.out s;have I1:Hid (∀W,Calls prog 8 #[.int .i64 d,.int .i64 0,.int .i64 15] W λe w'=>e=.returned (.bool (adB d))/\w'=W):=IA.out d;have I2:Hid (∀W,Calls prog 8 #[.int .i64 sp,.int .i64 0,.int .i64 7] W λe w'=>e=.returned (.bool (poB sp))/\w'=W):=IP.out sp;have I3:Hid (∀W,Calls prog 8 #[.int .i64 dp,.int .i64 0,.int .i64 7] W λe w'=>e=.returned (.bool (poB dp))/\w'=W):=IP.out dp;clear IA IP X1;generalize adB s=y0 at *;generalize adB d=y1 at *;generalize poB sp=y2 at *;generalize poB dp=y3 at *;cases y0 <;> cases y1 <;> cases y2
 all_goals
  go_enter func43,ntmps43;go_wp2_with (first|(go_at_call_of 8 (Value.int .i64 s);refine(I0.out _).mono ?_;rintro e w'⟨rfl,rfl⟩)|(go_at_call_of 8 (Value.int .i64 d);refine(I1.out _).mono ?_;rintro e w'⟨rfl,rfl⟩)|(go_at_call_of 8 (Value.int .i64 sp);refine(I2.out _).mono ?_;rintro e w'⟨rfl,rfl⟩)|(go_at_call_of 8 (Value.int .i64 dp);refine(I3.out _).mono ?_;rintro e w'⟨rfl,rfl⟩));go_ret;exact⟨by simp,D1⟩
section
variable {ds:List Dv}{ls:List Lk}{S M k:Nat}{bl:(Int × Int)->Option Nat}{T:Tab}{W W':World}
theorem SpV.grow(h:SpV ds ls S M bl T k W)(hb:Below W.heap.size W W'):SpV ds ls S M bl T k W' :=
 ⟨Bk.keep hb h.S,h.map.same (hb.block _ h.map.lt),λt b e=>(h.row t b e).below hb,h.dom,h.inv,h.fix⟩
theorem SpV.look(h:SpV ds ls S M bl T k W){t:Int × Int}(ht:N9 t):(Instr.lookup 42 (.map (some M)) (.agg #[.int .i64 t.1,.int .i64 t.2]) false).run prog W=.ok (bv (bl t)) W:=by
 have:=h.map.look1 dA (x:=t) ht;cases hb:bl t with
 | none =>
   rw[hb]at this;exact this
 | some b =>
   rw[hb]at this;exact this
def rndP(ds:List Dv)(T:Tab)(t:Int × Int)(p:Pk):Int:=if isPl ds t.1 t.2=true/\i8 p=true then T t (codeN p)else -1
theorem qS(h:SpV ds ls S M bl T k W){t:Int × Int}(ht:N9 t)(hb:bl t=none)(p:Pk) :
  Calls prog 12 #[.pointer (some ⟨S,0,none⟩),.agg #[.int .i64 t.1,.int .i64 t.2],pkV p] W λe w'=>e=.returned (.int .i64 (-1))/\Below W.heap.size W w':=by
 have D1:=Below.alN (Below.refl W.heap.size W) (.cells #[.int .i64 t.1,.int .i64 t.2] 27);have D2:=Below.alN D1 (.cells #[.int .i64 p.s,.int .i64 p.d,.int .i64 p.sp,.int .i64 p.dp] 29);have D2d:=D2.drew;have h2:=h.grow D2d;have hl:=h2.look ht;rw[hb]at hl;have c1:=h2.S.two.2;obtain⟨x0,x1⟩:=((i7 W #[.int .i64 t.1,.int .i64 t.2] 27).alloc (.cells #[.int .i64 p.s,.int .i64 p.d,.int .i64 p.sp,.int .i64 p.dp] 29)).two;clear h h2 hb;obtain⟨t1,t2⟩:=t;obtain⟨s,d,sp,dp⟩:=p;dsimp only[bv]at *;go_enter func12,ntmps12;go_wp2_with fail;go_region;go_wp2_with fail;go_ret;exact⟨rfl,D2d⟩
theorem qT(h:SpV ds ls S M bl T k W){t:Int × Int}(ht:N9 t){b:Nat}(hb:bl t=some b)(p:Pk)(hp:i8 p=false) :
  Calls prog 12 #[.pointer (some ⟨S,0,none⟩),.agg #[.int .i64 t.1,.int .i64 t.2],pkV p] W λe w'=>e=.returned (.int .i64 (-1))/\Below W.heap.size W w':=by
 have D1:=Below.alN (Below.refl W.heap.size W) (.cells #[.int .i64 t.1,.int .i64 t.2] 27);have D2:=Below.alN D1 (.cells #[.int .i64 p.s,.int .i64 p.d,.int .i64 p.sp,.int .i64 p.dp] 29);have D2d:=D2.drew;have h2:=h.grow D2d;have hl:=h2.look ht;rw[hb]at hl;have c1:=h2.S.two.2;obtain⟨x0,x1⟩:=((i7 W #[.int .i64 t.1,.int .i64 t.2] 27).alloc (.cells #[.int .i64 p.s,.int .i64 p.d,.int .i64 p.sp,.int .i64 p.dp] 29)).two;obtain⟨y0,y1,y2,y3,_⟩:=(E0 (W.alloc (.cells #[.int .i64 t.1,.int .i64 t.2] 27)) #[.int .i64 p.s,.int .i64 p.d,.int .i64 p.sp,.int .i64 p.dp] 29 (W.heap.size+1) (by simp)).four;have RI:Hid (∀W':World,Calls prog 43 #[pkV p] W' λe w'=>e=.returned (.bool false)/\Below W'.heap.size W' w'):=λW'=>by
  have:=jN p W';rw[hp]at this;exact this
 clear h h2 hb hp;obtain⟨t1,t2⟩:=t;obtain⟨s,d,sp,dp⟩:=p;dsimp only[bv]at *;go_enter func12,ntmps12;go_wp2_with fail;go_region;go_wp2_with fail;refine(RI.out _).mono ?_;rintro e w3⟨rfl,hb3⟩;have D3:=g8 hb3 D2d;go_wp2_with fail;go_ret;exact⟨rfl,D3⟩
theorem qU(h:SpV ds ls S M bl T k W){t:Int × Int}(ht:N9 t){b:Nat}(hb:bl t=some b)(p:Pk)(hp:i8 p=true) :
  Calls prog 12 #[.pointer (some ⟨S,0,none⟩),.agg #[.int .i64 t.1,.int .i64 t.2],pkV p] W λe w'=>e=.returned (.int .i64 (T t (codeN p)))/\Below W.heap.size W w':=by
 have D1:=Below.alN (Below.refl W.heap.size W) (.cells #[.int .i64 t.1,.int .i64 t.2] 27);have D2:=Below.alN D1 (.cells #[.int .i64 p.s,.int .i64 p.d,.int .i64 p.sp,.int .i64 p.dp] 29);have D2d:=D2.drew;have h2:=h.grow D2d;have hl:=h2.look ht;rw[hb]at hl;have c1:=h2.S.two.2;obtain⟨x0,x1⟩:=((i7 W #[.int .i64 t.1,.int .i64 t.2] 27).alloc (.cells #[.int .i64 p.s,.int .i64 p.d,.int .i64 p.sp,.int .i64 p.dp] 29)).two;have Y:=(E0 (W.alloc (.cells #[.int .i64 t.1,.int .i64 t.2] 27)) #[.int .i64 p.s,.int .i64 p.d,.int .i64 p.sp,.int .i64 p.dp] 29 (W.heap.size+1) (by simp));obtain⟨y0,y1,y2,y3,_⟩:=Y.four;have RI:Hid (∀W':World,Calls prog 43 #[pkV p] W' λe w'=>e=.returned (.bool true)/\Below W'.heap.size W' w'):=λW'=>by
  have:=jN p W';rw[hp]at this;exact this
 have RC:Hid (∀W':World,Calls prog 37 #[pkV p] W' λe w'=>e=.returned (.int .i64 (codeN p:Int))/\Below W'.heap.size W' w'):=λW'=>dI p W' hp;have hcl:=J5 hp;have RB:=h.row t b hb;have hcell:Hid (∀W',Below W.heap.size W W'->W'.cell? ⟨b,codeN p,none⟩=some (.int .i64 (T t (codeN p)))):=λW' hW=>(RB.below hW).cell hcl;clear h h2 hb hp RB;generalize codeN p=c at *;obtain⟨t1,t2⟩:=t;obtain⟨s,d,sp,dp⟩:=p;dsimp only[bv]at *;generalize T (t1,t2) c=r at *;have u1:decide ((c:Int)<0)=false:=by simp
 have u2:decide ((16384:Int)<=(c:Int))=false:=by simp;omega
 have u3:(0:Int)<=(c:Int):=by omega
 have u4:(c:Int)<16384:=by omega
 go_enter func12,ntmps12;go_wp2_with fail;go_region;go_wp2_with fail;refine(RI.out _).mono ?_;rintro e w3⟨rfl,hb3⟩;have D3:=g8 hb3 D2d;obtain⟨y0,y1,y2,y3,_⟩:=(Bk.keep hb3 Y.drew).four;clear hl c1 x0 x1;go_wp2_with fail;refine(RC.out _).mono ?_;rintro e w4⟨rfl,hb4⟩;have D4:=g8 hb4 D3;have z0:=hcell.out _ D4;clear y0 y1 y2 y3 Y hcell hb3 hb4;go_wp2_with fail;go_ret;exact⟨rfl,D4⟩
theorem qV(h:SpV ds ls S M bl T k W){t:Int × Int}(ht:N9 t)(p:Pk) :
  Calls prog 12 #[.pointer (some ⟨S,0,none⟩),.agg #[.int .i64 t.1,.int .i64 t.2],pkV p] W λe w'=>e=.returned (.int .i64 (rndP ds T t p))/\Below W.heap.size W w':=by
 unfold rndP;cases hb:bl t with
 | none =>
   rw[if_neg (λh1=>by
    obtain⟨b,e⟩:=(h.dom t).2 h1.1;rw[hb]at e;cases e)]
   exact qS h ht hb p
 | some b =>
   have hi:=(h.dom t).1 ⟨b,hb⟩;cases hp:i8 p
   ·rw[if_neg (λh1=>by cases h1.2)];exact qT h ht hb p hp
   ·rw[if_pos ⟨hi,rfl⟩];exact qU h ht hb p hp
end
section
variable {ds:List Dv}{ls:List Lk}{S M k:Nat}{bl:(Int × Int)->Option Nat}{T:Tab}{W W':World}
end
section
variable {ds:List Dv}{ls:List Lk}{S M k:Nat}{bl:(Int × Int)->Option Nat}{T:Tab}{W W':World}
end
structure Found(b8:Nat)(ns:List Nd)(f F B:Nat):Prop where
 lt:F<ns.length
 ne:F≠0
 mul:∃m,B=2 ^ (b8-nv ns F)*m
 le:B+2 ^ (b8-nv ns F)<=2 ^ b8
 same:∀c,c<2 ^ (b8-nv ns F)->ev ns f (envOf b8 (B+c))=ev ns F (envOf b8 (B+c))
 none:∀b,b<B->ev ns f (envOf b8 b)=false
section
variable {b8:Nat}{ns:List Nd}
end
section
variable {b9 a M b8 c9:Nat}{w:World}{ns:List Nd}
end
structure Lw(bR R MR c9:Nat)(nsR:List Nd)(w:World)(b9 q a M:Nat)(mv:Array Value)(g:Nat)(fs:List (Nat × (Env->Bool)))(W:World):Prop where
 bn:∃ns er,Bn b9 q a M W W ns er/\(∀x∈fs,Fn ns er x.1 x.2)/\(er=0->ns.length<=2+g)/\(er≠0->40000<=2+g)
 ar:Ar bR R MR 14 c9 W nsR
 lt:R<w.heap.size/\MR<w.heap.size/\rowOf W R<w.heap.size/\w.heap.size<b9
 mz:Bz W w.heap.size mv 32
 bel:Below w.heap.size w W
section
variable {bR R MR c9 b9 q a M:Nat}{nsR:List Nd}{w W W':World}{mv:Array Value}{g g':Nat}{fs:List (Nat × (Env->Bool))}
end
theorem qW(c:Nat):dL (pkN c).s (pkN c).d (pkN c).sp (pkN c).dp=c:=by
 unfold dL pkN;dsimp only;omega
theorem qX{c:Nat}(hc:c<16384)(v:Nat)(hv:v<14):envOf 14 c v=pkE (pkN c) v:=by
 have:=mS (pkN_ok hc) v hv;rw[qW]at this;exact this
section
variable {ds:List Dv}{ls:List Lk}{k j:Nat}{t:Int × Int}
theorem fk{c:Nat}(hc:c<16384):atF ds ls k t.1 t.2 (envOf 14 c)=true ↔ l8 ds ls k t (pkN c):=by
 unfold l8;rw[L14.at t.1 t.2 (envOf 14 c) (pkE (pkN c)) (qX hc)]
theorem jO(hz:netV ds ls=0){i:Nat}{o:Int}(h:peerF ls i o=some t):isPl ds t.1 t.2=true:=by
 obtain⟨l,hl,he⟩:=aN h;have hp:=(l7 hz).2.2.2 l hl;rcases ac he with⟨_,e⟩|⟨_,e⟩
 ·rw[e];exact hp.2
 ·rw[e];exact hp.1
theorem jP(hz:netV ds ls=0):∀(k:Nat) {p:Pk},i8 p=true->l8 ds ls k t p->isPl ds t.1 t.2=true
 | 0,p,hp,h=>by
   rw[gv hz hp]at h;obtain⟨i,d,_,_,h3,_⟩:=h;exact jO hz h3
 | k+1,p,hp,h=>by
   rw[gw hz hp]at h;rcases h with h|⟨i,d,o,_,h3,_⟩
   ·exact jP hz k hp h
   ·exact jO hz h3
theorem jQ(hz:netV ds ls=0)(h:isPl ds t.1 t.2=false){c:Nat}(hc:c<16384):atF ds ls k t.1 t.2 (envOf 14 c)=false:=by
 cases hx:atF ds ls k t.1 t.2 (envOf 14 c)with
 | false=>rfl
 | true =>
   have:=jP hz k (pkN_ok hc) ((fk hc).1 hx);rw[h]at this;cases this
theorem L14.codes{φ ψ:Env->Bool}(h:L14 φ)(g:L14 ψ)(e:∀c,c<16384->φ (envOf 14 c)=ψ (envOf 14 c)):φ=ψ:=by
 funext x
 have hx:∀i,i<14->x i=envOf 14 (val 14 0 x) i:=λi hi=>by
  have:=dq (y:=x) 14 0 i (by omega) (by omega);unfold envOf;rw[<- this];rw[show 0+14-1-i=14-1-i by omega];rfl
 rw[h x _ hx,g x _ hx];exact e _ (aW 14 0 x)
theorem qY(hz:netV ds ls=0)(h:∀t c,isPl ds t.1 t.2=true->c<16384->(l8 ds ls (k+1) t (pkN c) ↔ l8 ds ls k t (pkN c)))(a b:Nat)(ha:a<10)(hb:b<4):g9 ds ls (k+1) a b=g9 ds ls k a b:=by
 refine(L14.set _ _ _).codes (L14.set _ _ _) λc hc=>?_;have e:∀j,g9 ds ls j a b (envOf 14 c)=atF ds ls j (((a:Int),(b:Int)):Int × Int).1 (((a:Int),(b:Int)):Int × Int).2 (envOf 14 c):=λj=>by
  rw[aS ha hb]
 rw[e,e];cases hp:isPl ds (((a:Int),(b:Int)):Int × Int).1 (((a:Int),(b:Int)):Int × Int).2
 ·rw[jQ hz hp hc,jQ hz hp hc]
 ·rw[Bool.eq_iff_iff,fk hc,fk hc];exact h _ c hp hc
theorem qZ(h:∀a b,a<10->b<4->g9 ds ls (k+1) a b=g9 ds ls k a b):n8 ds ls (k+1)=n8 ds ls k:=by
 unfold n8;apply List.countP_congr;intro n hn;have hn':n<655360:=by simpa using hn
 rw[h _ _ (by omega) (by omega)]
theorem re(hz:netV ds ls=0){K:Nat}{T:Tab}(hi:KInv ds ls T k)(hf:∀t c,isPl ds t.1 t.2=true->c<16384->(l8 ds ls (k+1) t (pkN c) ↔ l8 ds ls k t (pkN c)))
  (up:∀j,j<K->n8 ds ls j<n8 ds ls (j+1)) (fix:∀a b,a<10->b<4->g9 ds ls (K+1) a b=g9 ds ls K a b):K=k:=by
 rcases Nat.lt_trichotomy K k with h|h|h
 ·obtain⟨t,c,h1,hc,h2,h3⟩:=hi.new K h;exfalso;obtain⟨a1,a2,a3,a4⟩:=ka (l7 hz).1 h1;refine h3 ?_;have e:∀j,l8 ds ls j t (pkN c) ↔ g9 ds ls j t.1.toNat t.2.toNat (pkE (pkN c))=true:=λj=>by
   unfold l8 atF;rw[if_pos (by omega)]
  rw[e]at h2 ⊢;rw[<- fix _ _ (by omega) (by omega)];exact h2
 ·exact h
 ·have:=up k h;rw[qZ (qY hz hf)]at this;omega
end
section
variable {ds:List Dv}{ls:List Lk}{k:Nat}{t:Int × Int}{T:Tab}
theorem kat(hi:KInv ds ls T k)(hp:isPl ds t.1 t.2=true){c j:Nat}(hc:c<16384)(hj:j<=k):atF ds ls j t.1 t.2 (envOf 14 c)=true ↔ (0<=T t c/\T t c<=(j:Int)):=by
 rw[fk hc,hi.set t c j hp hc hj]
end
theorem rf(V:f8->d7->World->Prop)(d:Dv)(i:Nat)(ls:List Lk)(T:Tab)(k:Int)(S nb sb kb mb b o n cap cl:Nat)(L:Option Addr)(d8:Nat)(vb vr vt:Value)(Q0:d7)(w:World)(hi:(i:Int)<(n:Int))(hk:d.kind=2)
  (H:Hid (DV V d i ls T k S nb sb kb mb (.agg #[.slice (some ⟨b,o,none⟩) n cap,.slice L cl d8]) vr vt)) (V0:V [] Q0 w)
  (HD:Hid (∀bx Q W,V bx Q W->W.cell? ⟨b,o+i*7,none⟩=some (.string d.name)/\W.cell? ⟨b,o+i*7+1,none⟩=some (.int .i64 d.kind)/\W.cell? ⟨b,o+i*7+2,none⟩=some (.int .i64 d.addr)/\W.cell? ⟨b,o+i*7+3,none⟩=some (.int .u8 (d.pool:Int))/\W.cell? ⟨b,o+i*7+4,none⟩=some vb/\W.cell? ⟨b,o+i*7+5,none⟩=some vr/\W.cell? ⟨b,o+i*7+6,none⟩=some vt))
  (hv:(∃A n c,vb=.slice A n c)/\(∃A n c,vr=.slice A n c)/\∃A n c,vt=.slice A n c) :
  Calls prog 38 #[.pointer (some ⟨S,0,none⟩),.agg #[.slice (some ⟨b,o,none⟩) n cap,.slice L cl d8],.int .i64 (i:Int),.int .i64 k,.func (.func 36) #[] #[.pointer (some ⟨nb,0,none⟩),.pointer (some ⟨sb,0,none⟩),.pointer (some ⟨kb,0,none⟩),.pointer (some ⟨mb,0,none⟩)]] w λe w'=>e=.returned (.tuple #[])/\V [] (un Q0 (K9 ((4:Nat):Int) (one2 d (i:Int) ls T k))) w':=by
 obtain⟨⟨Ab,nbb,cb,rfl⟩,⟨Ar,nr,cr,rfl⟩,⟨At,nt,ct,rfl⟩⟩:=hv;have i0:(0:Int)<=(i:Int):=by omega
 have PO:Hid (∀W:World,Calls prog 19 #[.int .i64 2] W λe w'=>e=.returned (.int .i64 4)/\Below W.heap.size W w'):=λW=>aT 2 W;have PK:Hid (∀(c:Nat) (W:World),c<16384->Calls prog 21 #[.int .i64 (c:Int)] W λe w'=>e=.returned (pkV (pkN c))/\Below W.heap.size W w'):=λc W hc=>rpacket_any c W hc;have V1:=H.out.new V0 #[.slice (some ⟨b,o,none⟩) n cap,.slice L cl d8] 25;obtain⟨c0,c1,c2,c3,c4,c5,c6⟩:=HD.out _ _ _ V1;rw[hk]at c1;have N1:=(i7 w #[.slice (some ⟨b,o,none⟩) n cap,.slice L cl d8] 25);obtain⟨n1,n2⟩:=N1.two;clear V0 HD N1;go_enter func38,ntmps38;go_upto_region 2 with fail;have V2:=H.out.new V1 #[.string d.name,.int .i64 2,.int .i64 d.addr,.int .u8 (d.pool:Int),.slice Ab nbb cb,.slice Ar nr cr,.slice At nt ct] 56;rw[World.size_alloc]at V2;clear V1 c0 c1 c2 c3 c4 c5 c6 n1 n2;generalize (w.alloc (.cells #[.slice (some ⟨b,o,none⟩) n cap,.slice L cl d8] 25)).alloc (.cells #[.string d.name,.int .i64 2,.int .i64 d.addr,.int .u8 (d.pool:Int),.slice Ab nbb cb,.slice Ar nr cr,.slice At nt ct] 56)=w2 at *;generalize w.heap.size=y at *;obtain⟨n1,n2⟩:=(H.out.get V2 (_,_,_) (List.mem_cons_of_mem _ List.mem_cons_self)).two;have PE:=H.out.peer V2 1;obtain⟨p1,p2,hpl⟩:∃p1 p2:Int,E9 (peerF ls i 1)=.agg #[.int .i64 p1,.int .i64 p2]:=by cases peerF ls i 1 <;> exact⟨_,_,rfl⟩
 rw[hpl]at PE;obtain⟨op,hop⟩:∃op,Hid ((peerF ls (i:Int) 1).isSome=op):=⟨_,rfl⟩;rw[hop.out]at PE;clear hpl;go_wp2_with fail;refine PE.mono ?_;rintro e w3⟨rfl,V3⟩;clear PE V2 n1 n2;have V4:=H.out.new V3 #[.int .i64 p1,.int .i64 p2] 27;clear V3;go_upto_region 3 with fail;generalize w3.alloc (.cells #[.int .i64 p1,.int .i64 p2] 27)=w4 at *;generalize w3.heap.size=z at *;obtain⟨BX,hBX⟩:∃BX:f8,BX=[(z,#[.int .i64 p1,.int .i64 p2],27),(y+1,#[.string d.name,.int .i64 2,.int .i64 d.addr,.int .u8 (d.pool:Int),.slice Ab nbb cb,.slice Ar nr cr,.slice At nt ct],56),(y,#[.slice (some ⟨b,o,none⟩) n cap,.slice L cl d8],25)]:=⟨_,rfl⟩;rw[<- hBX]at V4;have BD:Hid (∀{Q:d7} {W:World},V BX Q W->W.cell? ⟨y+1,0,none⟩=some (.string d.name)/\W.cell? ⟨y+1,1,none⟩=some (.int .i64 2)/\W.cell? ⟨y+1,2,none⟩=some (.int .i64 d.addr)/\W.cell? ⟨y+1,3,none⟩=some (.int .u8 (d.pool:Int))/\W.cell? ⟨y+1,4,none⟩=some (.slice Ab nbb cb)/\W.cell? ⟨y+1,5,none⟩=some (.slice Ar nr cr)/\W.cell? ⟨y+1,6,none⟩=some (.slice At nt ct)):=λ{Q W} hv=>by
  rw[hBX]at hv;have B:=H.out.get hv (_,_,_) (List.mem_cons_of_mem _ List.mem_cons_self);exact⟨B.at 0,B.at 1,B.at 2,B.at 3,B.at 4,B.at 5,B.at 6⟩
 have GP:Hid (∀{x:Nat} {s0 s1 s2 s3:Int} {bx:f8} {Q:d7} {W:World},V ((x,#[.int .i64 s0,.int .i64 s1,.int .i64 s2,.int .i64 s3],29)::bx) Q W->W.cell? ⟨x,0,none⟩=some (.int .i64 s0)/\W.cell? ⟨x,1,none⟩=some (.int .i64 s1)/\W.cell? ⟨x,2,none⟩=some (.int .i64 s2)/\W.cell? ⟨x,3,none⟩=some (.int .i64 s3)):=λ{x s0 s1 s2 s3 bx Q W} hv=>by
  obtain⟨a0,a1,a2,a3,_⟩:=(H.out.get hv (_,_,_) List.mem_cons_self).four;exact⟨a0,a1,a2,a3⟩
 have BT:Hid (∀{y':Nat × Array Value × TypeId} {Q:d7} {W:World},V (y'::BX) Q W->V BX Q W):=λ{y' Q W} hv=>H.out.less hv (λy hy=>List.mem_cons_of_mem _ hy);obtain⟨_,d1,_⟩:=BD.out V4;go_wp2_with fail;go_loopw[14] (λs wr=>s=.int .i64 0/\V BX Q0 wr) (λ_ _=>0)
 case atStart=>exact⟨rfl,V4⟩
 case round =>
  clear V4 d1;obtain⟨rfl,V5⟩:=hrel;obtain⟨_,d1,_⟩:=BD.out V5;go_wp2_with fail;go_loopw[17] (λs wr=>∃q:Nat,s=.int .i64 (q:Int)/\q<=4/\V BX (un Q0 (partQ (one2 d (i:Int) ls T k) q 0)) wr) (λs _=>4-(intOf s).toNat)
  case atStart=>exact⟨0,rfl,by omega,by rw[cL];exact V5⟩
  case round =>
   clear V5 d1;obtain⟨q,rfl,hq,V6⟩:=hrel;obtain⟨_,d1,_⟩:=BD.out V6;go_wp2_with fail;refine(PO.out _).mono ?_;rintro e w6⟨rfl,hb6⟩;have V7:=H.out.below V6 hb6;clear V6 hb6 d1;by_cases hqP:q<4
   rotate_left
   ·obtain rfl:q=4:=by omega
    have V8:=H.out.less V7 (bx':=[]) (λy hy=>by cases hy);rw[cO]at V8;clear V7;go_wp2_with fail
    go_returns
    exact⟨rfl,V8⟩
   have q1:(q:Int)<4:=by omega
   go_wp2_with fail;go_loopw[18] (λs wr=>∃c:Nat,s=.int .i64 (c:Int)/\c<=16384/\V BX (un Q0 (partQ (one2 d (i:Int) ls T k) q c)) wr) (λs _=>16384-(intOf s).toNat)
   case atStart=>exact⟨0,rfl,by omega,V7⟩
   case round =>
    clear V7;obtain⟨c,rfl,hc,V8⟩:=hrel;by_cases hlt:c<16384
    rotate_left
    ·obtain rfl:c=16384:=by omega
     rw[cN]at V8;go_wp2_with fail;go_roundw
     case rel=>exact⟨q+1,by go_num,by omega,V8⟩
     case measure=>simp[intOf];omega
    have c1:(c:Int)<16384:=by omega
    have WA:=H.out.was V8 (q:Int) c (by omega) (by rw[hk];show(q:Int)<4;omega) hlt;have ST:Hid (∀W,V BX (un (un Q0 (partQ (one2 d (i:Int) ls T k) q c)) ((one2 d (i:Int) ls T k) (q:Int) c)) W->V BX (un Q0 (partQ (one2 d (i:Int) ls T k) q (c+1))) W):=λW h=>by rw[cM hlt]at h;exact h
    generalize un Q0 (partQ (one2 d (i:Int) ls T k) q c)=Qc at *;cases hw:wasB T k ((i:Int),(q:Int)) c with
    | false =>
      rw[hw]at WA;have V9:V BX (un Qc ((one2 d (i:Int) ls T k) (q:Int) c)) wr:=by
       rw[rQ hw];exact V8
      clear hw;go_wp2_with fail;refine WA.mono ?_;rintro e w'⟨rfl,rfl⟩;clear WA;go_wp2_with fail;go_roundw
      case rel=>exact⟨c+1,by go_num,by omega,ST.out _ V9⟩
      case measure=>simp[intOf];omega
    | true =>
      rw[hw]at WA;go_wp2_with fail;refine WA.mono ?_;rintro e w'⟨rfl,rfl⟩;clear WA;go_wp2_with fail;refine(PK.out c _ hlt).mono ?_;rintro e w9⟨rfl,hb9⟩;have V9:=H.out.below V8 hb9;have VA:=H.out.new V9 #[.int .i64 (pkN c).s,.int .i64 (pkN c).d,.int .i64 (pkN c).sp,.int .i64 (pkN c).dp] 29;clear V8 V9 hb9;go_upto_region 22 with fail;generalize w9.alloc (.cells #[.int .i64 (pkN c).s,.int .i64 (pkN c).d,.int .i64 (pkN c).sp,.int .i64 (pkN c).dp] 29)=wa at *;generalize w9.heap.size=u at *;have hpc:=pkN_ok hlt;obtain⟨_,d1,_,_,_,d5,d6⟩:=BD.out (BT.out VA);obtain⟨x0,x1,x2,x3⟩:=GP.out VA;have OU:=H.out.out VA (pkN c).d;have YE:Hid (outB (routesOf d) (pkN c).d=true->letsD d (pkN c)=true->un Qc (one2 d (i:Int) ls T k (q:Int) c)=i4 Qc (peerF ls (i:Int) (outN (routesOf d) (pkN c).d)) (codeN (pkN c))):=λh1 h2=>rJ hw h1 h2;have NO:Hid (¬(outB (routesOf d) (pkN c).d=true/\letsD d (pkN c)=true)->un Qc (one2 d (i:Int) ls T k (q:Int) c)=Qc):=λh=>jW λh'=>h h'.2;clear hw;have LE:=λ(Q:d7) (W:World) (h:V ((u,#[.int .i64 (pkN c).s,.int .i64 (pkN c).d,.int .i64 (pkN c).sp,.int .i64 (pkN c).dp],29)::BX) Q W)=>H.out.lets h (pkN c);have PU:=λ(Q:d7) (W:World) (h:V ((u,#[.int .i64 (pkN c).s,.int .i64 (pkN c).d,.int .i64 (pkN c).sp,.int .i64 (pkN c).dp],29)::BX) Q W) (o:Int)=>H.out.put h o (pkN c) hpc;have LE:=Hid.of LE;have PU:=Hid.of PU;generalize outN (routesOf d) (pkN c).d=ou at *;generalize codeN (pkN c)=cc at *;generalize letsD d (pkN c)=le at *;generalize one2 d (i:Int) ls T k (q:Int) c=R at *;generalize pkN c=pc at *;obtain⟨a,b',c',e'⟩:=pc;dsimp only at *;cases hob:outB (routesOf d) b' with
      | false =>
        rw[hob]at OU NO;go_wp2_with fail;refine OU.mono ?_;rintro e wb⟨rfl,VB⟩;have VZ:V ((u,#[.int .i64 a,.int .i64 b',.int .i64 c',.int .i64 e'],29)::BX) (un Qc R) wb:=by rw[NO.out (λh=>by cases h.1)];exact VB
        clear OU VA VB LE PU YE NO d1 d5 d6 x0 x1 x2 x3;go_wp2_with fail;go_roundw
        case rel=>exact⟨c+1,by go_num,by omega,ST.out _ (H.out.less VZ (λy hy=>List.mem_cons_of_mem _ hy))⟩
        case measure=>simp[intOf];omega
      | true =>
        rw[hob]at OU NO YE;go_wp2_with fail;refine OU.mono ?_;rintro e wb⟨rfl,VB⟩;obtain⟨x0,x1,x2,x3⟩:=GP.out VB;obtain⟨_,d1,_,_,_,d5,d6⟩:=BD.out (BT.out VB);clear OU VA;cases le with
        | false =>
          have NO1:=Hid.of (NO.out (λh=>by cases h.2));clear NO YE;go_wp2_with fail;refine(LE.out _ _ VB).mono ?_;rintro e wc⟨rfl,VC⟩;have VZ:V ((u,#[.int .i64 a,.int .i64 b',.int .i64 c',.int .i64 e'],29)::BX) (un Qc R) wc:=by rw[NO1.out];exact VC
          clear VB VC LE PU NO1 d1 d5 d6 x0 x1 x2 x3;go_wp2_with fail;go_roundw
          case rel=>exact⟨c+1,by go_num,by omega,ST.out _ (H.out.less VZ (λy hy=>List.mem_cons_of_mem _ hy))⟩
          case measure=>simp[intOf];omega
        | true =>
          have YE1:Hid (un Qc R=i4 Qc (peerF ls (i:Int) ou) cc):=by first|exact YE.out rfl rfl|exact YE.out trivial trivial|exact YE.out trivial rfl|exact YE.out rfl trivial|exact YE.out rfl|exact YE.out trivial
          clear NO YE;go_wp2_with fail;refine(LE.out _ _ VB).mono ?_;rintro e wc⟨rfl,VC⟩;obtain⟨x0,x1,x2,x3⟩:=GP.out VC;clear VB LE d1 d5 d6;go_wp2_with fail;refine(PU.out _ _ VC ou).mono ?_;rintro e wd⟨rfl,VD⟩;have VZ:V ((u,#[.int .i64 a,.int .i64 b',.int .i64 c',.int .i64 e'],29)::BX) (un Qc R) wd:=by rw[YE1.out];exact VD
          clear VC VD PU YE1 x0 x1 x2 x3;go_wp2_with fail;go_roundw
          case rel=>exact⟨c+1,by go_num,by omega,ST.out _ (H.out.less VZ (λy hy=>List.mem_cons_of_mem _ hy))⟩
          case measure=>simp[intOf];omega
theorem rg(V:f8->d7->World->Prop)(d:Dv)(i:Nat)(ls:List Lk)(T:Tab)(k:Int)(S nb sb kb mb b o n cap cl:Nat)(L:Option Addr)(d8:Nat)(vb vr vt:Value)(Q0:d7)(w:World)(hi:(i:Int)<(n:Int))(hk:d.kind=3)
  (H:Hid (DV V d i ls T k S nb sb kb mb (.agg #[.slice (some ⟨b,o,none⟩) n cap,.slice L cl d8]) vr vt)) (V0:V [] Q0 w)
  (HD:Hid (∀bx Q W,V bx Q W->W.cell? ⟨b,o+i*7,none⟩=some (.string d.name)/\W.cell? ⟨b,o+i*7+1,none⟩=some (.int .i64 d.kind)/\W.cell? ⟨b,o+i*7+2,none⟩=some (.int .i64 d.addr)/\W.cell? ⟨b,o+i*7+3,none⟩=some (.int .u8 (d.pool:Int))/\W.cell? ⟨b,o+i*7+4,none⟩=some vb/\W.cell? ⟨b,o+i*7+5,none⟩=some vr/\W.cell? ⟨b,o+i*7+6,none⟩=some vt))
  (hv:(∃A n c,vb=.slice A n c)/\(∃A n c,vr=.slice A n c)/\∃A n c,vt=.slice A n c) :
  Calls prog 38 #[.pointer (some ⟨S,0,none⟩),.agg #[.slice (some ⟨b,o,none⟩) n cap,.slice L cl d8],.int .i64 (i:Int),.int .i64 k,.func (.func 36) #[] #[.pointer (some ⟨nb,0,none⟩),.pointer (some ⟨sb,0,none⟩),.pointer (some ⟨kb,0,none⟩),.pointer (some ⟨mb,0,none⟩)]] w λe w'=>e=.returned (.tuple #[])/\V [] (un Q0 (K9 ((2:Nat):Int) (one3 d (i:Int) ls T k))) w':=by
 obtain⟨⟨Ab,nbb,cb,rfl⟩,⟨Ar,nr,cr,rfl⟩,⟨At,nt,ct,rfl⟩⟩:=hv;have i0:(0:Int)<=(i:Int):=by omega
 have PO:Hid (∀W:World,Calls prog 19 #[.int .i64 3] W λe w'=>e=.returned (.int .i64 2)/\Below W.heap.size W w'):=λW=>aT 3 W;have PK:Hid (∀(c:Nat) (W:World),c<16384->Calls prog 21 #[.int .i64 (c:Int)] W λe w'=>e=.returned (pkV (pkN c))/\Below W.heap.size W w'):=λc W hc=>rpacket_any c W hc;have V1:=H.out.new V0 #[.slice (some ⟨b,o,none⟩) n cap,.slice L cl d8] 25;obtain⟨c0,c1,c2,c3,c4,c5,c6⟩:=HD.out _ _ _ V1;rw[hk]at c1;have N1:=(i7 w #[.slice (some ⟨b,o,none⟩) n cap,.slice L cl d8] 25);obtain⟨n1,n2⟩:=N1.two;clear V0 HD N1;go_enter func38,ntmps38;go_upto_region 2 with fail;have V2:=H.out.new V1 #[.string d.name,.int .i64 3,.int .i64 d.addr,.int .u8 (d.pool:Int),.slice Ab nbb cb,.slice Ar nr cr,.slice At nt ct] 56;rw[World.size_alloc]at V2;clear V1 c0 c1 c2 c3 c4 c5 c6 n1 n2;generalize (w.alloc (.cells #[.slice (some ⟨b,o,none⟩) n cap,.slice L cl d8] 25)).alloc (.cells #[.string d.name,.int .i64 3,.int .i64 d.addr,.int .u8 (d.pool:Int),.slice Ab nbb cb,.slice Ar nr cr,.slice At nt ct] 56)=w2 at *;generalize w.heap.size=y at *;obtain⟨n1,n2⟩:=(H.out.get V2 (_,_,_) (List.mem_cons_of_mem _ List.mem_cons_self)).two;have PE:=H.out.peer V2 1;obtain⟨p1,p2,hpl⟩:∃p1 p2:Int,E9 (peerF ls i 1)=.agg #[.int .i64 p1,.int .i64 p2]:=by cases peerF ls i 1 <;> exact⟨_,_,rfl⟩
 rw[hpl]at PE;obtain⟨op,hop⟩:∃op,Hid ((peerF ls (i:Int) 1).isSome=op):=⟨_,rfl⟩;rw[hop.out]at PE;clear hpl;go_wp2_with fail;refine PE.mono ?_;rintro e w3⟨rfl,V3⟩;clear PE V2 n1 n2;have V4:=H.out.new V3 #[.int .i64 p1,.int .i64 p2] 27;clear V3;go_upto_region 3 with fail;generalize w3.alloc (.cells #[.int .i64 p1,.int .i64 p2] 27)=w4 at *;generalize w3.heap.size=z at *;obtain⟨BX,hBX⟩:∃BX:f8,BX=[(z,#[.int .i64 p1,.int .i64 p2],27),(y+1,#[.string d.name,.int .i64 3,.int .i64 d.addr,.int .u8 (d.pool:Int),.slice Ab nbb cb,.slice Ar nr cr,.slice At nt ct],56),(y,#[.slice (some ⟨b,o,none⟩) n cap,.slice L cl d8],25)]:=⟨_,rfl⟩;rw[<- hBX]at V4;have BD:Hid (∀{Q:d7} {W:World},V BX Q W->W.cell? ⟨y+1,0,none⟩=some (.string d.name)/\W.cell? ⟨y+1,1,none⟩=some (.int .i64 3)/\W.cell? ⟨y+1,2,none⟩=some (.int .i64 d.addr)/\W.cell? ⟨y+1,3,none⟩=some (.int .u8 (d.pool:Int))/\W.cell? ⟨y+1,4,none⟩=some (.slice Ab nbb cb)/\W.cell? ⟨y+1,5,none⟩=some (.slice Ar nr cr)/\W.cell? ⟨y+1,6,none⟩=some (.slice At nt ct)):=λ{Q W} hv=>by
  rw[hBX]at hv;have B:=H.out.get hv (_,_,_) (List.mem_cons_of_mem _ List.mem_cons_self);exact⟨B.at 0,B.at 1,B.at 2,B.at 3,B.at 4,B.at 5,B.at 6⟩
 have GP:Hid (∀{x:Nat} {s0 s1 s2 s3:Int} {bx:f8} {Q:d7} {W:World},V ((x,#[.int .i64 s0,.int .i64 s1,.int .i64 s2,.int .i64 s3],29)::bx) Q W->W.cell? ⟨x,0,none⟩=some (.int .i64 s0)/\W.cell? ⟨x,1,none⟩=some (.int .i64 s1)/\W.cell? ⟨x,2,none⟩=some (.int .i64 s2)/\W.cell? ⟨x,3,none⟩=some (.int .i64 s3)):=λ{x s0 s1 s2 s3 bx Q W} hv=>by
  obtain⟨a0,a1,a2,a3,_⟩:=(H.out.get hv (_,_,_) List.mem_cons_self).four;exact⟨a0,a1,a2,a3⟩
 have BT:Hid (∀{y':Nat × Array Value × TypeId} {Q:d7} {W:World},V (y'::BX) Q W->V BX Q W):=λ{y' Q W} hv=>H.out.less hv (λy hy=>List.mem_cons_of_mem _ hy);obtain⟨_,d1,_⟩:=BD.out V4;go_wp2_with fail;go_loopw[14] (λs wr=>s=.int .i64 0/\V BX Q0 wr) (λ_ _=>0)
 case atStart=>exact⟨rfl,V4⟩
 case round =>
  clear V4 d1;obtain⟨rfl,V5⟩:=hrel;obtain⟨_,d1,_⟩:=BD.out V5;go_wp2_with fail;go_loopw[17] (λs wr=>∃q:Nat,s=.int .i64 (q:Int)/\q<=2/\V BX (un Q0 (partQ (one3 d (i:Int) ls T k) q 0)) wr) (λs _=>2-(intOf s).toNat)
  case atStart=>exact⟨0,rfl,by omega,by rw[cL];exact V5⟩
  case round =>
   clear V5 d1;obtain⟨q,rfl,hq,V6⟩:=hrel;obtain⟨_,d1,_⟩:=BD.out V6;go_wp2_with fail;refine(PO.out _).mono ?_;rintro e w6⟨rfl,hb6⟩;have V7:=H.out.below V6 hb6;clear V6 hb6 d1;by_cases hqP:q<2
   rotate_left
   ·obtain rfl:q=2:=by omega
    have V8:=H.out.less V7 (bx':=[]) (λy hy=>by cases hy);rw[cO]at V8;clear V7;go_wp2_with fail
    go_returns
    exact⟨rfl,V8⟩
   have q1:(q:Int)<2:=by omega
   go_wp2_with fail;go_loopw[18] (λs wr=>∃c:Nat,s=.int .i64 (c:Int)/\c<=16384/\V BX (un Q0 (partQ (one3 d (i:Int) ls T k) q c)) wr) (λs _=>16384-(intOf s).toNat)
   case atStart=>exact⟨0,rfl,by omega,V7⟩
   case round =>
    clear V7;obtain⟨c,rfl,hc,V8⟩:=hrel;by_cases hlt:c<16384
    rotate_left
    ·obtain rfl:c=16384:=by omega
     rw[cN]at V8;go_wp2_with fail;go_roundw
     case rel=>exact⟨q+1,by go_num,by omega,V8⟩
     case measure=>simp[intOf];omega
    have c1:(c:Int)<16384:=by omega
    have WA:=H.out.was V8 (q:Int) c (by omega) (by rw[hk];show(q:Int)<2;omega) hlt;have ST:Hid (∀W,V BX (un (un Q0 (partQ (one3 d (i:Int) ls T k) q c)) ((one3 d (i:Int) ls T k) (q:Int) c)) W->V BX (un Q0 (partQ (one3 d (i:Int) ls T k) q (c+1))) W):=λW h=>by rw[cM hlt]at h;exact h
    generalize un Q0 (partQ (one3 d (i:Int) ls T k) q c)=Qc at *;cases hw:wasB T k ((i:Int),(q:Int)) c with
    | false =>
      rw[hw]at WA;have V9:V BX (un Qc ((one3 d (i:Int) ls T k) (q:Int) c)) wr:=by
       rw[rK hw];exact V8
      clear hw;go_wp2_with fail;refine WA.mono ?_;rintro e w'⟨rfl,rfl⟩;clear WA;go_wp2_with fail;go_roundw
      case rel=>exact⟨c+1,by go_num,by omega,ST.out _ V9⟩
      case measure=>simp[intOf];omega
    | true =>
      rw[hw]at WA;go_wp2_with fail;refine WA.mono ?_;rintro e w'⟨rfl,rfl⟩;clear WA;go_wp2_with fail;refine(PK.out c _ hlt).mono ?_;rintro e w9⟨rfl,hb9⟩;have V9:=H.out.below V8 hb9;have VA:=H.out.new V9 #[.int .i64 (pkN c).s,.int .i64 (pkN c).d,.int .i64 (pkN c).sp,.int .i64 (pkN c).dp] 29;clear V8 V9 hb9;go_upto_region 22 with fail;generalize w9.alloc (.cells #[.int .i64 (pkN c).s,.int .i64 (pkN c).d,.int .i64 (pkN c).sp,.int .i64 (pkN c).dp] 29)=wa at *;generalize w9.heap.size=u at *;have hpc:=pkN_ok hlt;obtain⟨_,d1,_,_,_,d5,d6⟩:=BD.out (BT.out VA);clear d6;have hfc:=iH hpc;have BA:Hid (∀W:World,Calls prog 76 #[pkV (pkN c)] W λe w'=>e=.returned (pkV (flipP (pkN c)))/\Below W.heap.size W w'):=λW=>rR (pkN c) W;have RC:Hid (∀W:World,Calls prog 37 #[pkV (flipP (pkN c))] W λe w'=>e=.returned (.int .i64 (codeN (flipP (pkN c)):Int))/\Below W.heap.size W w'):=λW=>dI _ W hfc;have hcl:=J5 hfc;have LB:Hid (∀{bx:f8} {Q:d7} {W:World},V bx Q W->Calls prog 75 #[.slice Ar nr cr,pkV (flipP (pkN c))] W λe w'=>e=.returned (.bool (letsD d (flipP (pkN c))))/\V bx Q w'):=λh=>H.out.lets h _;have LE:Hid (∀{bx:f8} {Q:d7} {W:World},V bx Q W->Calls prog 75 #[.slice Ar nr cr,pkV (pkN c)] W λe w'=>e=.returned (.bool (letsD d (pkN c)))/\V bx Q w'):=λh=>H.out.lets h _;have PU:Hid (∀{bx:f8} {Q:d7} {W:World} (o:Int),V bx Q W->Calls prog 36 #[.int .i64 (i:Int),.int .i64 o,pkV (pkN c),.pointer (some ⟨nb,0,none⟩),.pointer (some ⟨sb,0,none⟩),.pointer (some ⟨kb,0,none⟩),.pointer (some ⟨mb,0,none⟩)] W λe w'=>e=.returned (.tuple #[])/\V bx (i4 Q (peerF ls (i:Int) o) (codeN (pkN c))) w'):=λo h=>H.out.put h o _ hpc;have W0:Hid (∀{bx:f8} {Q:d7} {W:World},V bx Q W->Calls prog 73 #[.pointer (some ⟨S,0,none⟩),.int .i64 (i:Int),.int .i64 0,.int .i64 (codeN (flipP (pkN c)):Int),.int .i64 k] W λe w'=>e=.returned (.bool (wasB T k ((i:Int),0) (codeN (flipP (pkN c)))))/\w'=W):=λh=>H.out.was h 0 _ (by omega) (by rw[hk];show(0:Int)<2;omega) hcl;obtain hqe|hqe:(q:Int)=0\/(q:Int)=1:=by omega
      ·have f0:((q:Int) == 0)=true:=by simpa using hqe
       have f1:((q:Int) == 1)=false:=by simp[hqe]
       have YE:Hid (letsD d (pkN c)=true->un Qc (one3 d (i:Int) ls T k (q:Int) c)=i4 Qc (peerF ls (i:Int) 1) (codeN (pkN c))):=λh=>by rw[hqe]at hw ⊢;exact rN hw h
       have NO:Hid (letsD d (pkN c)=false->un Qc (one3 d (i:Int) ls T k (q:Int) c)=Qc):=λh=>by rw[hqe];exact rL h
       clear hqe;clear hw LB W0 RC;generalize letsD d (pkN c)=le at *;generalize codeN (pkN c)=cc at *;have hfl:flipP (pkN c)=⟨(pkN c).d,(pkN c).s,(pkN c).dp,(pkN c).sp⟩:=rfl;rw[hfl]at BA;clear hfl hfc hcl;generalize pkN c=pc at *;generalize one3 d (i:Int) ls T k (q:Int) c=R at *;obtain⟨a,b',c',e'⟩:=pc;dsimp only at *;obtain⟨x0,x1,x2,x3⟩:=GP.out VA;cases le with
       | false =>
         have NO1:=Hid.of (NO.out rfl);clear NO YE;go_wp2_with fail;refine(LE.out VA).mono ?_;rintro e wb⟨rfl,VB⟩;have VW:V ((u,#[.int .i64 a,.int .i64 b',.int .i64 c',.int .i64 e'],29)::BX) (un Qc R) wb:=by rw[NO1.out];exact VB
         clear VA VB LE PU NO1 d1 d5 x0 x1 x2 x3;obtain⟨x0,x1,x2,x3⟩:=GP.out VW;go_wp2_with fail;refine(BA.out _).mono ?_;rintro e wf⟨rfl,hbf⟩;have VF:=H.out.below VW hbf;have VG:=H.out.new VF #[.int .i64 b',.int .i64 a,.int .i64 e',.int .i64 c'] 29;clear VW VF hbf x0 x1 x2 x3;go_upto_region 31 with fail;generalize wf.alloc (.cells #[.int .i64 b',.int .i64 a,.int .i64 e',.int .i64 c'] 29)=wg at *;generalize wf.heap.size=v at *;have VZ:=H.out.less VG (bx':=((u,#[.int .i64 a,.int .i64 b',.int .i64 c',.int .i64 e'],29)::BX)) (λy hy=>List.mem_cons_of_mem _ hy);clear VG;go_wp2_with fail;go_roundw
         case rel=>exact⟨c+1,by go_num,by omega,ST.out _ (H.out.less VZ (λy hy=>List.mem_cons_of_mem _ hy))⟩
         case measure=>simp[intOf];omega
       | true =>
         have YE1:=Hid.of (YE.out rfl);clear NO YE;go_wp2_with fail;refine(LE.out VA).mono ?_;rintro e wb⟨rfl,VB⟩;obtain⟨x0,x1,x2,x3⟩:=GP.out VB;clear VA LE d1 d5;go_wp2_with fail;refine(PU.out 1 VB).mono ?_;rintro e wc⟨rfl,VC⟩;have VW:V ((u,#[.int .i64 a,.int .i64 b',.int .i64 c',.int .i64 e'],29)::BX) (un Qc R) wc:=by rw[YE1.out];exact VC
         clear VB VC PU YE1 x0 x1 x2 x3;obtain⟨x0,x1,x2,x3⟩:=GP.out VW;go_wp2_with fail;refine(BA.out _).mono ?_;rintro e wf⟨rfl,hbf⟩;have VF:=H.out.below VW hbf;have VG:=H.out.new VF #[.int .i64 b',.int .i64 a,.int .i64 e',.int .i64 c'] 29;clear VW VF hbf x0 x1 x2 x3;go_upto_region 31 with fail;generalize wf.alloc (.cells #[.int .i64 b',.int .i64 a,.int .i64 e',.int .i64 c'] 29)=wg at *;generalize wf.heap.size=v at *;have VZ:=H.out.less VG (bx':=((u,#[.int .i64 a,.int .i64 b',.int .i64 c',.int .i64 e'],29)::BX)) (λy hy=>List.mem_cons_of_mem _ hy);clear VG;go_wp2_with fail;go_roundw
         case rel=>exact⟨c+1,by go_num,by omega,ST.out _ (H.out.less VZ (λy hy=>List.mem_cons_of_mem _ hy))⟩
         case measure=>simp[intOf];omega
      ·have f0:((q:Int) == 0)=false:=by simp[hqe]
       have f1:((q:Int) == 1)=true:=by simpa using hqe
       have YE:Hid (op=true->wasB T k ((i:Int),0) (codeN (flipP (pkN c)))=true->letsD d (flipP (pkN c))=true->un Qc (one3 d (i:Int) ls T k (q:Int) c)=i4 Qc (peerF ls (i:Int) 0) (codeN (pkN c))):=λh1 h2 h3=>by rw[hqe]at hw ⊢;exact rP hw (hop.out.trans h1) h2 h3
       have NO:Hid (¬(op=true/\wasB T k ((i:Int),0) (codeN (flipP (pkN c)))=true/\letsD d (flipP (pkN c))=true)->un Qc (one3 d (i:Int) ls T k (q:Int) c)=Qc):=λh=>by rw[hqe];exact rO λ⟨h1,h2,h3⟩=>h ⟨hop.out.symm.trans h1,h2,h3⟩
       clear hw LE hqe;generalize wasB T k ((i:Int),0) (codeN (flipP (pkN c)))=ww at *;generalize letsD d (flipP (pkN c))=le at *;generalize codeN (pkN c)=cc at *;generalize codeN (flipP (pkN c))=cf at *;have hfl:flipP (pkN c)=⟨(pkN c).d,(pkN c).s,(pkN c).dp,(pkN c).sp⟩:=rfl;rw[hfl]at BA RC LB;clear hfl hfc hcl;generalize pkN c=pc at *;generalize one3 d (i:Int) ls T k (q:Int) c=R at *;obtain⟨a,b',c',e'⟩:=pc;dsimp only at *;have VW:=VA;clear VA;obtain⟨x0,x1,x2,x3⟩:=GP.out VW;go_wp2_with fail;refine(BA.out _).mono ?_;rintro e wf⟨rfl,hbf⟩;have VF:=H.out.below VW hbf;have VG:=H.out.new VF #[.int .i64 b',.int .i64 a,.int .i64 e',.int .i64 c'] 29;clear VW VF hbf x0 x1 x2 x3;go_upto_region 31 with fail;generalize wf.alloc (.cells #[.int .i64 b',.int .i64 a,.int .i64 e',.int .i64 c'] 29)=wg at *;generalize wf.heap.size=v at *;obtain⟨x0,x1,x2,x3⟩:=GP.out VG;cases op with
       | false =>
         have VZ:V ((u,#[.int .i64 a,.int .i64 b',.int .i64 c',.int .i64 e'],29)::BX) (un Qc R) wg:=by rw[NO.out (λh=>by cases h.1)];exact H.out.less VG (λy hy=>List.mem_cons_of_mem _ hy)
         clear VG d1 d5 YE NO PU LB;go_wp2_with fail;go_roundw
         case rel=>exact⟨c+1,by go_num,by omega,ST.out _ (H.out.less VZ (λy hy=>List.mem_cons_of_mem _ hy))⟩
         case measure=>simp[intOf];omega
       | true =>
         cases ww with
         | false =>
           have NO1:=Hid.of (NO.out (λh=>by cases h.2.1));clear NO YE;go_wp2_with fail;refine(RC.out _).mono ?_;rintro e wh⟨rfl,hbh⟩;have VH:=H.out.below VG hbh;clear VG hbh;go_wp2_with fail;refine(W0.out VH).mono ?_;rintro e wi⟨rfl,rfl⟩;have VZ:V ((u,#[.int .i64 a,.int .i64 b',.int .i64 c',.int .i64 e'],29)::BX) (un Qc R) wi:=by rw[NO1.out];exact H.out.less VH (λy hy=>List.mem_cons_of_mem _ hy)
           clear VH d1 d5 NO1 PU LB x0 x1 x2 x3;go_wp2_with fail;go_roundw
           case rel=>exact⟨c+1,by go_num,by omega,ST.out _ (H.out.less VZ (λy hy=>List.mem_cons_of_mem _ hy))⟩
           case measure=>simp[intOf];omega
         | true =>
           have NO1:Hid (le=false->un Qc R=Qc):=λh=>NO.out (λh'=>by rw[h]at h';cases h'.2.2);have YE1:Hid (le=true->un Qc R=i4 Qc (peerF ls (i:Int) 0) cc):=λh=>YE.out rfl rfl h;clear NO YE;go_wp2_with fail;refine(RC.out _).mono ?_;rintro e wh⟨rfl,hbh⟩;have VH:=H.out.below VG hbh;clear VG hbh;go_wp2_with fail;refine(W0.out VH).mono ?_;rintro e wi⟨rfl,rfl⟩;obtain⟨x0,x1,x2,x3⟩:=GP.out VH;obtain⟨_,d1,_,_,_,d5,_⟩:=BD.out (H.out.less VH (λy hy=>List.mem_cons_of_mem _ (List.mem_cons_of_mem _ hy)));cases le with
           | false =>
             have NO2:=Hid.of (NO1.out rfl);clear NO1 YE1;go_wp2_with fail;refine(LB.out VH).mono ?_;rintro e wj⟨rfl,VJ⟩;have VZ:V ((u,#[.int .i64 a,.int .i64 b',.int .i64 c',.int .i64 e'],29)::BX) (un Qc R) wj:=by rw[NO2.out];exact H.out.less VJ (λy hy=>List.mem_cons_of_mem _ hy)
             clear VH VJ d1 d5 NO2 PU LB x0 x1 x2 x3;go_wp2_with fail;go_roundw
             case rel=>exact⟨c+1,by go_num,by omega,ST.out _ (H.out.less VZ (λy hy=>List.mem_cons_of_mem _ hy))⟩
             case measure=>simp[intOf];omega
           | true =>
             have YE2:=Hid.of (YE1.out rfl);clear NO1 YE1;go_wp2_with fail;refine(LB.out VH).mono ?_;rintro e wj⟨rfl,VJ⟩;have VK:=H.out.less VJ (bx':=((u,#[.int .i64 a,.int .i64 b',.int .i64 c',.int .i64 e'],29)::BX)) (λy hy=>List.mem_cons_of_mem _ hy);obtain⟨x0,x1,x2,x3⟩:=GP.out VK;clear VH VJ d1 d5 LB;go_wp2_with fail;refine(PU.out 0 VK).mono ?_;rintro e wl⟨rfl,VL⟩;have VZ:V ((u,#[.int .i64 a,.int .i64 b',.int .i64 c',.int .i64 e'],29)::BX) (un Qc R) wl:=by rw[YE2.out];exact VL
             clear VK VL PU YE2 x0 x1 x2 x3;go_wp2_with fail;go_roundw
             case rel=>exact⟨c+1,by go_num,by omega,ST.out _ (H.out.less VZ (λy hy=>List.mem_cons_of_mem _ hy))⟩
             case measure=>simp[intOf];omega
end Go.Proofs.YtppbfikimalojaaGreat
