/-
  XAB.
-/
import Derived.Test.YtjmclcmgpaofiaaGreatXLy
import Derived.Test.YtjmclcmgpaofiaaGreatProg
import Derived.WalkKit
import Derived.WalkSpells
import Derived.WalkLawsBesides
import Derived.Handy
import Derived.BigQuiet
import Derived.Deep.QuietTactic
import Derived.Deep.RegionHeld3
import Derived.Deep.DeepCutAuto
import Derived.ProofKit
import Derived.OpenShut
import Derived.Deep.Slices
import Derived.Laws.AppendOwn
import Derived.Lib.Bytealg
set_option maxHeartbeats 8000000
set_option maxRecDepth 100000
namespace Go.Proofs.YtjmclcmgpaofiaaGreat
open Tryz
open Go.ChangeShapes Go.WideShapes Go.RowKit Go.Deep
def SlAt{α:Type}(a9:Nat)(w:World)(n:Nat)(R:List Value->α->Prop)(v:Value)(xs:List α):Prop :=
 ∃A cap,v=.slice A xs.length cap /\ (A=none->cap=0) /\ xs.length<=cap /\ cap<=maxLen /\
   (xs≠[]->∃b o,A=some ⟨b,o,none⟩ /\ b<a9 /\ ∀k x,xs[k]?=some x->∃cs:List Value,cs.length=n /\ R cs x /\ ∀j u,cs[j]?=some u->w.cell? ⟨b,o+k*n+j,none⟩=some u)
section
variable {α:Type}{a9 base' n:Nat}{w w':World}{R R':List Value->α->Prop}{v:Value}{xs:List α}
theorem SlAt.below(h:SlAt a9 w n R v xs)(hb:Below a9 w w')(hR:∀cs x,x∈xs->R cs x->R' cs x):SlAt a9 w' n R' v xs:=by
 obtain⟨A,cap,e,h0,h1,h2,h3⟩:=h;refine⟨A,cap,e,h0,h1,h2,λhn=>?_⟩;obtain⟨b,o,ea,hl,hr⟩:=h3 hn;refine⟨b,o,ea,hl,λk x hx=>?_⟩;obtain⟨cs,c1,c2,c3⟩:=hr k x hx;exact⟨cs,c1,hR cs x (List.mem_of_getElem? hx) c2,λj u hj=>(hb.cell (p:=⟨b,_,none⟩) hl).trans (c3 j u hj)⟩
theorem SlAt.mono(h:SlAt a9 w n R v xs)(hb:a9<=base')(hR:∀cs x,x∈xs->R cs x->R' cs x):SlAt base' w n R' v xs:=by
 obtain⟨A,cap,e,h0,h1,h2,h3⟩:=h;refine⟨A,cap,e,h0,h1,h2,λhn=>?_⟩;obtain⟨b,o,ea,hl,hr⟩:=h3 hn;refine⟨b,o,ea,by omega,λk x hx=>?_⟩;obtain⟨cs,c1,c2,c3⟩:=hr k x hx;exact⟨cs,c1,hR cs x (List.mem_of_getElem? hx) c2,c3⟩
end
theorem nS{w:World}{a:Addr}{v:Value}(h:w.cell? a=some v):a.spot=none:=by
 unfold World.cell? at h
 split at h
 ·split at h
  ·cases h
  ·rename_i hs
   cases hp:a.spot
   ·rfl
   ·rw[hp]at hs;simp at hs
 ·cases h
section
variable {H:Type}{enc:TypeId × Value->H}{W:World}{sp:Nat->Bool}{held:Bool}
theorem hH{α:Type}[Inhabited α]{S E:TypeId}{n:Nat}{R:List Value->α->Prop}(hu:prog.underlying S=some (.slice E))(hc:prog.cellsOf E=n)(hn:0<n)(hR:∀fuel cs x,cs.length=n->DataW.trod enc prog W 0 sp held fuel E cs=some x->∃y,R cs y)
  {fuel:Nat} {cs:List Value} {x:DataW H × List MemPlace} (h:DataW.trod enc prog W 0 sp held fuel S cs=some x):∃v xs,cs=[v] /\ SlAt W W n R v xs:=by
 rcases open_slice hu h with⟨h0,h00⟩|⟨a,len,cap,m,nn,D,Pl,h0,_,hl,hm,hmm,hd,hx⟩
 ·exact⟨.slice none 0 0,[],h0,none,0,rfl,λ_=>rfl,Nat.le_refl _,Nat.zero_le _,λhn=>absurd rfl hn⟩
 ·have hlm:len<=m:=by rw[hmm];split <;> omega
  by_cases h00:len=0
  ·subst h00;exact⟨.slice (some a) 0 cap,[],h0,some a,cap,rfl,(λe=>by cases e),hl,hm,λhn=>absurd rfl hn⟩
  ·have each:∀i,i<len->∃y:α,∃cs':List Value,cs'.length=n /\ R cs' y /\ ∀j u,cs'[j]?=some u->W.cell? ((a.add (i*n)).add j)=some u:=by
    intro i hi;obtain⟨cs',h1,h2⟩:=hx i (by omega);rw[hc]at h1;obtain⟨_,hlen,hcell⟩:=World.cells?_some h1;obtain⟨y,hy⟩:=hR _ _ _ hlen h2;refine⟨y,cs',hlen,hy,λj u hj=>?_⟩;have hj5:j<n:=by
     have:=(List.getElem?_eq_some_iff.1 hj).1;omega
    have:=hcell j hj5;rw[hj]at this;exact this
   have hfst:∃u,W.cell? a=some u:=by
    obtain⟨y,cs',hl',_,hc'⟩:=each 0 (by omega);obtain⟨u,hu'⟩:∃u,cs'[0]?=some u:=⟨_,List.getElem?_eq_getElem (by omega)⟩;exact⟨u,by simpa[Addr.add]using hc' 0 u hu'⟩
   obtain⟨u0,hu0⟩:=hfst;have hsp:=nS hu0;obtain⟨b,o,sp'⟩:=a;simp only[]at hsp;subst hsp;obtain⟨f,hf⟩:=choose_lt each;have hlb:b<W.heap.size:=World.block_lt_of_cell? W _ hu0;have hlen:((List.range len).map f).length=len:=by simp
   refine⟨_,(List.range len).map f,h0,some ⟨b,o,none⟩,cap,by rw[hlen],(λe=>by cases e),by rw[hlen];exact hl,hm,λ_=>⟨b,o,rfl,hlb,λk y hy=>?_⟩⟩;have hk:k<len:=by
    have:=(List.getElem?_eq_some_iff.1 hy).1;rw[hlen]at this;exact this
   obtain rfl:f k=y:=by
    rw[List.getElem?_map,List.getElem?_range hk]at hy;simpa using hy
   obtain⟨cs',c1,c2,c3⟩:=hf k hk;refine⟨cs',c1,c2,λj u hj=>?_⟩;have:=c3 j u hj;rw[Addr.add_lit,Addr.add_lit]at this;exact this
end
structure NRule where
 ok:Bool
 a:Nat
 b:Nat
 c:Nat
 d:Nat
 ha:a<65536
 hb:b<65536
 hc:c<256
 hd:d<256
structure NRoute where
 v:Int
 b:Int
 p:Int
structure Dv where
 name:ByteArray
 kind:Int
 addr:Int
 pool:Nat
 backs:List Int
 rules:List NRule
 routes:List NRoute
 hp:pool<256
 hs:name.size<=maxLen
structure Lk where
 a:Int
 p:Int
 b:Int
 q:Int
instance:Inhabited NRule:=⟨⟨false,0,0,0,0,by omega,by omega,by omega,by omega⟩⟩
instance:Inhabited NRoute:=⟨⟨0,0,0⟩⟩
instance:Inhabited Lk:=⟨⟨0,0,0,0⟩⟩
instance:Inhabited Dv:=⟨⟨⟨#[]⟩,0,0,0,[],[],[],by omega,Nat.zero_le _⟩⟩
def IsI(cs:List Value)(x:Int):Prop:=cs=[.int .i64 x]
def aY(cs:List Value)(r:NRule):Prop:=cs=[.bool r.ok,.int .u16 (r.a:Int),.int .u16 (r.b:Int),.int .u8 (r.c:Int),.int .u8 (r.d:Int)]
def br(cs:List Value)(r:NRoute):Prop:=cs=[.int .i64 r.v,.int .i64 r.b,.int .i64 r.p]
def dc(cs:List Value)(l:Lk):Prop:=cs=[.int .i64 l.a,.int .i64 l.p,.int .i64 l.b,.int .i64 l.q]
def IsDv(a9:Nat)(w:World)(cs:List Value)(d:Dv):Prop :=
 ∃vb vr vt,cs=[.string d.name,.int .i64 d.kind,.int .i64 d.addr,.int .u8 (d.pool:Int),vb,vr,vt] /\ SlAt a9 w 1 IsI vb d.backs /\ SlAt a9 w 5 aY vr d.rules /\ SlAt a9 w 3 br vt d.routes
theorem IsDv.below{a9:Nat}{w w':World}{cs:List Value}{d:Dv}(h:IsDv a9 w cs d)(hb:Below a9 w w'):IsDv a9 w' cs d:=by
 obtain⟨vb,vr,vt,e,h1,h2,h3⟩:=h;exact⟨vb,vr,vt,e,h1.below hb (λ_ _ _ h=>h),h2.below hb (λ_ _ _ h=>h),h3.below hb (λ_ _ _ h=>h)⟩
theorem IsDv.mono{a9 base':Nat}{w:World}{cs:List Value}{d:Dv}(h:IsDv a9 w cs d)(hb:a9<=base'):IsDv base' w cs d:=by
 obtain⟨vb,vr,vt,e,h1,h2,h3⟩:=h;exact⟨vb,vr,vt,e,h1.mono hb (λ_ _ _ h=>h),h2.mono hb (λ_ _ _ h=>h),h3.mono hb (λ_ _ _ h=>h)⟩
def Devs(a9:Nat)(w:World)(v:Value)(ds:List Dv):Prop:=SlAt a9 w 7 (IsDv a9 w) v ds
def Links(a9:Nat)(w:World)(v:Value)(ls:List Lk):Prop:=SlAt a9 w 4 dc v ls
theorem Devs.below{a9:Nat}{w w':World}{v:Value}{ds:List Dv}(h:Devs a9 w v ds)(hb:Below a9 w w'):Devs a9 w' v ds:=SlAt.below h hb (λ_ _ _ h=>h.below hb)
theorem Devs.mono{a9 base':Nat}{w:World}{v:Value}{ds:List Dv}(h:Devs a9 w v ds)(hb:a9<=base'):Devs base' w v ds:=SlAt.mono h hb (λ_ _ _ h=>h.mono hb)
theorem Links.below{a9:Nat}{w w':World}{v:Value}{ls:List Lk}(h:Links a9 w v ls)(hb:Below a9 w w'):Links a9 w' v ls:=SlAt.below h hb (λ_ _ _ h=>h)
theorem Links.mono{a9 base':Nat}{w:World}{v:Value}{ls:List Lk}(h:Links a9 w v ls)(hb:a9<=base'):Links base' w v ls:=SlAt.mono h hb (λ_ _ _ h=>h)
theorem iZ:prog.cellsOf 3=1:=by kernel_rfl
theorem nBool:prog.cellsOf 4=1:=by kernel_rfl
theorem nU8:prog.cellsOf 5=1:=by kernel_rfl
theorem nU16:prog.cellsOf 28=1:=by kernel_rfl
theorem nStr:prog.cellsOf 9=1:=by kernel_rfl
theorem vw:prog.cellsOf 30=4:=by kernel_rfl
theorem nRule:prog.cellsOf 64=5:=by kernel_rfl
theorem vx:prog.cellsOf 123=3:=by kernel_rfl
theorem nLink:prog.cellsOf 118=4:=by kernel_rfl
theorem vy:prog.cellsOf 70=7:=by kernel_rfl
theorem nInts:prog.cellsOf 67=1:=by kernel_rfl
theorem vz:prog.cellsOf 66=1:=by kernel_rfl
theorem vA:prog.cellsOf 68=1:=by kernel_rfl
theorem vB:prog.cellsOf 22=1:=by kernel_rfl
theorem vC:prog.cellsOf 23=1:=by kernel_rfl
theorem nNet:prog.cellsOf 25=2:=by kernel_rfl
theorem hJ{x:Int}{n:Nat}(h0:0<=x)(h1:x<=(n:Int)):∃k:Nat,x=(k:Int) /\ k<n+1:=⟨x.toNat,by omega,by omega⟩
section
variable {H:Type}{enc:TypeId × Value->H}{W:World}{sp:Nat->Bool}{held:Bool}{fuel:Nat}{cs:List Value}{x:DataW H × List MemPlace}
theorem vD(h:DataW.trod enc prog W 0 sp held fuel 3 cs=some x):∃y:Int,IsI cs y:=by
 obtain⟨y,e,_⟩:=DataW.trod_int underlying3 h;exact⟨y,e⟩
theorem vE(hl:cs.length=4)(h:DataW.trod enc prog W 0 sp held fuel 118 cs=some x):∃l:Lk,dc cs l:=by
 obtain⟨xs,k,hk,hxy,_,hxl,hf⟩:=DataW.trod_struct underlying118 h
 match xs,hxl,cs,hl with
 | [y0,y1,y2,y3],_,[v0,v1,v2,v3],_ =>
   have g0:=hf 0 _ rfl;have g1:=hf 1 _ rfl;have g2:=hf 2 _ rfl;have g3:=hf 3 _ rfl;simp[iZ]at g0 g1 g2 g3;obtain⟨x0,e0,_⟩:=DataW.trod_int underlying3 g0;obtain⟨x1,e1,_⟩:=DataW.trod_int underlying3 g1;obtain⟨x2,e2,_⟩:=DataW.trod_int underlying3 g2;obtain⟨x3,e3,_⟩:=DataW.trod_int underlying3 g3;simp only[List.cons.injEq,and_true]at e0 e1 e2 e3;subst e0 e1 e2 e3;exact⟨⟨x0,x1,x2,x3⟩,rfl⟩
theorem vF(hl:cs.length=3)(h:DataW.trod enc prog W 0 sp held fuel 123 cs=some x):∃r:NRoute,br cs r:=by
 obtain⟨xs,k,hk,hxy,_,hxl,hf⟩:=DataW.trod_struct underlying123 h
 match xs,hxl,cs,hl with
 | [y0,y1,y2],_,[v0,v1,v2],_ =>
   have g0:=hf 0 _ rfl;have g1:=hf 1 _ rfl;have g2:=hf 2 _ rfl;simp[iZ]at g0 g1 g2;obtain⟨x0,e0,_⟩:=DataW.trod_int underlying3 g0;obtain⟨x1,e1,_⟩:=DataW.trod_int underlying3 g1;obtain⟨x2,e2,_⟩:=DataW.trod_int underlying3 g2;simp only[List.cons.injEq,and_true]at e0 e1 e2;subst e0 e1 e2;exact⟨⟨x0,x1,x2⟩,rfl⟩
theorem vG(hl:cs.length=5)(h:DataW.trod enc prog W 0 sp held fuel 64 cs=some x):∃r:NRule,aY cs r:=by
 obtain⟨xs,k,hk,hxy,_,hxl,hf⟩:=DataW.trod_struct underlying64 h
 match xs,hxl,cs,hl with
 | [y0,y1],_,[v0,v1,v2,v3,v4],_ =>
   have g0:=hf 0 _ rfl;have g1:=hf 1 _ rfl;simp[nBool,vw]at g0 g1;obtain⟨ok,q0,_⟩:=DataW.trod_bool underlying4 g0;obtain⟨xs,k,hk,hxy,_,hxl,hf⟩:=DataW.trod_struct underlying30 g1
   match xs,hxl with
   | [z0,z1,z2,z3],_ =>
     have g0:=hf 0 _ rfl;have g1:=hf 1 _ rfl;have g2:=hf 2 _ rfl;have g3:=hf 3 _ rfl;simp[nU16,nU8]at g0 g1 g2 g3;obtain⟨x0,e0,_,w0⟩:=DataW.trod_int underlying28 g0;obtain⟨x1,e1,_,w1⟩:=DataW.trod_int underlying28 g1;obtain⟨x2,e2,_,w2⟩:=DataW.trod_int underlying5 g2;obtain⟨x3,e3,_,w3⟩:=DataW.trod_int underlying5 g3;simp only[List.cons.injEq,and_true]at q0 e0 e1 e2 e3;subst q0 e0 e1 e2 e3;obtain⟨na,rfl,la⟩:=hJ (n:=65535) (bounds_u16 w0).1 (bounds_u16 w0).2;obtain⟨nb,rfl,lb⟩:=hJ (n:=65535) (bounds_u16 w1).1 (bounds_u16 w1).2;obtain⟨nc,rfl,lc⟩:=hJ (n:=255) (bounds_u8 w2).1 (bounds_u8 w2).2;obtain⟨nd',rfl,ld⟩:=hJ (n:=255) (bounds_u8 w3).1 (bounds_u8 w3).2;exact⟨⟨ok,na,nb,nc,nd',by omega,by omega,by omega,by omega⟩,rfl⟩
theorem vH(hl:cs.length=7)(h:DataW.trod enc prog W 0 sp held fuel 70 cs=some x):∃d:Dv,IsDv W.heap.size W cs d:=by
 obtain⟨xs,k,hk,hxy,_,hxl,hf⟩:=DataW.trod_struct underlying70 h
 match xs,hxl,cs,hl with
 | [y0,y1,y2,y3,y4,y5,y6],_,[v0,v1,v2,v3,v4,v5,v6],_ =>
   have g0:=hf 0 _ rfl;have g1:=hf 1 _ rfl;have g2:=hf 2 _ rfl;have g3:=hf 3 _ rfl;have g4:=hf 4 _ rfl;have g5:=hf 5 _ rfl;have g6:=hf 6 _ rfl;simp[iZ,nStr,nU8,nInts,vz,vA]at g0 g1 g2 g3 g4 g5 g6;obtain⟨s,e0,_,ls⟩:=DataW.trod_string underlying9 g0;obtain⟨x1,e1,_⟩:=DataW.trod_int underlying3 g1;obtain⟨x2,e2,_⟩:=DataW.trod_int underlying3 g2;obtain⟨x3,e3,_,w3⟩:=DataW.trod_int underlying5 g3;obtain⟨u4,b4,e4,s4⟩:=hH (n:=1) (R:=IsI) underlying67 iZ (by omega) (λ_ _ _ _ h=>vD h) g4;obtain⟨u5,b5,e5,s5⟩:=hH (n:=5) (R:=aY) underlying66 nRule (by omega) (λ_ _ _ hl h=>vG hl h) g5;obtain⟨u6,b6,e6,s6⟩:=hH (n:=3) (R:=br) underlying68 vx (by omega) (λ_ _ _ hl h=>vF hl h) g6;simp only[List.cons.injEq,and_true]at e0 e1 e2 e3 e4 e5 e6;subst e0 e1 e2 e3 e4 e5 e6;obtain⟨nc,rfl,lc⟩:=hJ (n:=255) (bounds_u8 w3).1 (bounds_u8 w3).2;exact⟨⟨s,x1,x2,nc,b4,b5,b6,by omega,ls⟩,_,_,_,rfl,s4,s5,s6⟩
theorem vI{r:Reach}{b0:Nat}{v:Value}{d:DataW H}{p:List MemPlace}(hv:Value.okWide prog W r b0 25 v)(h:DataW.Trod enc prog W 0 sp held 25 v d p) :
  ∃vd vl ds ls,v=.agg #[vd,vl] /\ Devs W W vd ds /\ Links W W vl ls:=by
 obtain⟨cs,rfl,hsz⟩:=okWide_struct underlying25 hv;obtain⟨fuel,h⟩:=h;rw[nNet]at hsz;obtain⟨l⟩:=cs;simp only[Value.cells]at h;obtain⟨xs,k,hk,hxy,_,hxl,hf⟩:=DataW.trod_struct underlying25 h
 match xs,hxl,l,hsz with
 | [y0,y1],_,[v0,v1],_ =>
   have g0:=hf 0 _ rfl;have g1:=hf 1 _ rfl;simp[vB,vC]at g0 g1;obtain⟨u0,ds,e0,s0⟩:=hH (n:=7) (R:=IsDv W.heap.size W) underlying22 vy (by omega) (λ_ _ _ hl h=>vH hl h) g0;obtain⟨u1,ls,e1,s1⟩:=hH (n:=4) (R:=dc) underlying23 nLink (by omega) (λ_ _ _ hl h=>vE hl h) g1;simp only[List.cons.injEq,and_true]at e0 e1;subst e0 e1;exact⟨_,_,ds,ls,rfl,s0,s1⟩
end
end Go.Proofs.YtjmclcmgpaofiaaGreat
namespace Go.Proofs.YtjmclcmgpaofiaaGreat
open Tryz
open Go.RowKit
structure Rt where
 v:Int
 b:Int
 p:Int
abbrev rtv(r:Rt):Value:=.agg #[r.v,r.b,r.p]
abbrev nT(r:Rt):List Value:=[.int .i64 r.v,.int .i64 r.b,.int .i64 r.p]
def cu(xs:List Rt):List Value:=xs.flatMap λr=>nT r
def bh(b:Int):Nat:=(4-b).toNat
def isR(r:Rt):Bool:=decide (0<=r.b)&&decide (r.b<=4)&&decide (0<=r.v)&&decide (r.v<16)&&decide (r.v % 2 ^ bh r.b=0)&&decide (0<=r.p)&&decide (r.p<4)
def takesB(r:Rt)(d:Int):Bool:=decide (d / 2 ^ bh r.b=r.v / 2 ^ bh r.b)
def ja(d:Int)(m:Int × Int)(r:Rt):Int × Int:=if isR r&&takesB r d&&decide (m.1<r.b)then(r.b,r.p)else m
def ce(l:List Rt)(d:Int):Int × Int:=l.foldl (ja d) (-1,0)
def outN(l:List Rt)(d:Int):Int:=if 0<=d /\ d<16 then(ce l d).2 else 0
def outB(l:List Rt)(d:Int):Bool:=decide (0<=d)&&decide (d<16)&&!((ce l d).1 == -1)
theorem vJ{r:Rt}(h:isR r=true):0<=r.b /\ r.b<=4:=by
 simp only[isR,Bool.and_eq_true,decide_eq_true_eq]at h;exact⟨h.1.1.1.1.1.1,h.1.1.1.1.1.2⟩
theorem vK(l m:List Rt)(d:Int):ce (l++m) d=m.foldl (ja d) (ce l d):=List.foldl_append ..
theorem vL(l:List Rt)(r:Rt)(d:Int):ce (l++[r]) d=ja d (ce l d) r:=by rw[vK];rfl
theorem vM{xs:List Rt}{k:Nat}{r:Rt}(h:xs[k]?=some r)(d:Int):ce (xs.take (k+1)) d=ja d (ce (xs.take k) d) r:=by
 obtain⟨hk,e⟩:=List.getElem?_eq_some_iff.1 h;rw[List.take_succ_eq_append_getElem hk,e,vL]
def sameA(r s:Rt):Bool:=(r.v == s.v)&&(r.b == s.b)
def jb(xs:List Rt)(k:Nat)(r:Rt):Int:=if isR r then(if(xs.take k).any (λa=>sameA a r)then 5 else 0)else 1
def cQ(xs:List Rt)(k:Nat):Int :=
 if h:k<xs.length then(if jb xs k xs[k]=0 then cQ xs (k+1)else jb xs k xs[k])else 0
termination_by xs.length-k
def checkV(xs:List Rt):Int:=if 8<xs.length then 2 else cQ xs 0
theorem vN{xs:List Rt}{k:Nat}{r:Rt}(h:xs[k]?=some r):cQ xs k=if jb xs k r=0 then cQ xs (k+1)else jb xs k r:=by
 obtain⟨hk,e⟩:=List.getElem?_eq_some_iff.1 h;rw[cQ,dif_pos hk,e]
theorem jc{xs:List Rt}{k:Nat}(h:xs.length<=k):cQ xs k=0:=by rw[cQ,dif_neg (by omega)]
theorem nU(r:Rt)(l:List Rt):cu (r::l)=nT r++cu l:=rfl
theorem vO(a b:List Rt):cu (a++b)=cu a++cu b:=by simp[cu]
theorem nV:∀xs:List Rt,(cu xs).length=xs.length*3
 | []=>rfl
 | r::l=>by
   have:=nV l;rw[nU,List.length_append,this];simp;omega
theorem kx:∀(xs:List Rt) (k:Nat) (r:Rt),xs[k]?=some r ->
  (cu xs)[k*3]?=some (.int .i64 r.v) /\ (cu xs)[k*3+1]?=some (.int .i64 r.b) /\ (cu xs)[k*3+2]?=some (.int .i64 r.p)
 | [],k,r,h=>by simp at h
 | x::l,0,r,h=>by
   obtain rfl:x=r:=by simpa using h
   exact⟨rfl,rfl,rfl⟩
 | x::l,k+1,r,h=>by
   have ih:=kx l k r (by simpa using h);have sh:∀j,(cu (x::l))[(k+1)*3+j]?=(cu l)[k*3+j]?:=λj=>by
    rw[nU,List.getElem?_append_right (by simp;omega)]
    congr 1
    simp;omega
   have s0:=sh 0;simp only[Nat.add_zero]at s0;rw[s0,sh 1,sh 2];exact ih
def TAt(w:World)(b o:Nat)(xs:List Rt):Prop:=∀j u,(cu xs)[j]?=some u->w.cell? ⟨b,o+j,none⟩=some u
def Routes(a9:Nat)(w:World)(v:Value)(xs:List Rt):Prop :=
 ∃A cap,v=.slice A xs.length cap /\ (A=none->cap=0) /\ xs.length<=cap /\ cap<=maxLen /\ (xs≠[]->∃b o,A=some ⟨b,o,none⟩ /\ b<a9 /\ TAt w b o xs)
theorem TAt.at{w:World}{b o:Nat}{xs:List Rt}(h:TAt w b o xs){k:Nat}{r:Rt}(hk:xs[k]?=some r) :
  w.cell? ⟨b,o+k*3,none⟩=some (.int .i64 r.v) /\ w.cell? ⟨b,o+k*3+1,none⟩=some (.int .i64 r.b) /\ w.cell? ⟨b,o+k*3+2,none⟩=some (.int .i64 r.p):=by
 obtain⟨h0,h1,h2⟩:=kx xs k r hk;exact⟨h _ _ h0,h _ _ h1,h _ _ h2⟩
theorem TAt.below{a9:Nat}{w w':World}{b o:Nat}{xs:List Rt}(h:TAt w b o xs)(hb:Below a9 w w')(hl:b<a9):TAt w' b o xs :=
 λj u hj=>(hb.cell (p:=⟨b,_,none⟩) hl).trans (h j u hj)
theorem TAt.take{w:World}{b o:Nat}{xs:List Rt}(h:TAt w b o xs)(k:Nat):TAt w b o (xs.take k):=λj u hj=>by
 refine h j u ?_;have e:cu xs=cu (xs.take k)++cu (xs.drop k):=by rw[<- vO,List.take_append_drop]
 rw[e,List.getElem?_append_left (List.getElem?_eq_some_iff.1 hj).1];exact hj
theorem Routes.below{a9:Nat}{w w':World}{v:Value}{xs:List Rt}(h:Routes a9 w v xs)(hb:Below a9 w w'):Routes a9 w' v xs:=by
 obtain⟨A,cap,e,h0,h1,h2,h3⟩:=h;refine⟨A,cap,e,h0,h1,h2,λhn=>?_⟩;obtain⟨b,o,ea,hl,hr⟩:=h3 hn;exact⟨b,o,ea,hl,hr.below hb hl⟩
theorem Routes.mono{a9 base':Nat}{w:World}{v:Value}{xs:List Rt}(h:Routes a9 w v xs)(hb:a9<=base'):Routes base' w v xs:=by
 obtain⟨A,cap,e,h0,h1,h2,h3⟩:=h;refine⟨A,cap,e,h0,h1,h2,λhn=>?_⟩;obtain⟨b,o,ea,hl,hr⟩:=h3 hn;exact⟨b,o,ea,by omega,hr⟩
theorem chn{W0 W w':World}(hb:Below W W w')(h:Below W0 W0 W):Below W0 W0 w':=h.trans (hb.mono h.size)
theorem Below.al{W0 w:World}(h:Below W0 W0 w)(o:Obj):Below W0 W0 (w.alloc o):=h.alloc h.size o
def Three(w:World)(n:Nat)(a b c:Value):Prop :=
 n<w.heap.size /\ w.cell? ⟨n,0,none⟩=some a /\ w.cell? ⟨n,1,none⟩=some b /\ w.cell? ⟨n,2,none⟩=some c
theorem dH{B:Nat}{W w':World}{n:Nat}{a b c:Value}(hb:Below B W w')(hB:n<B)(h:Three W n a b c):Three w' n a b c:=by
 obtain⟨h0,h1,h2,h3⟩:=h;exact⟨Nat.lt_of_lt_of_le h0 hb.size,(hb.cell (p:=⟨n,0,none⟩) hB).trans h1,(hb.cell (p:=⟨n,1,none⟩) hB).trans h2,(hb.cell (p:=⟨n,2,none⟩) hB).trans h3⟩
theorem Three.drew{w:World}{n:Nat}{a b c:Value}(h:Three w n a b c):Three w.drew n a b c:=h
theorem du(w:World)(a b c:Value)(t:TypeId):Three (w.alloc (.cells #[a,b,c] t)) w.heap.size a b c :=
 ⟨by simp,by simp[go_sem],by simp[go_sem],by simp[go_sem]⟩
theorem vP{w:World}{n:Nat}{a b c:Value}(h:Three w n a b c)(o:Obj):Three (w.alloc o) n a b c:=dH ((Below.refl _ _).alloc (Nat.le_refl _) o) h.1 h
theorem aa{W0 W w':World}(hb:Below W W w')(h:Below W0 W0 W):Below W0 W0 w':=h.trans (hb.mono h.size)
theorem Below.alN{W0 w:World}(h:Below W0 W0 w)(o:Obj):Below W0 W0 (w.alloc o):=h.alloc h.size o
def portsV(k:Int):Int:=if k=1 then 1 else if k=2 then 4 else if k=3\/k=4\/k=5 then 2 else 0
def bv(l:Lk)(d p:Int):Option (Int × Int):=if(l.a == d)&&(l.p == p)then some (l.b,l.q)else if(l.b == d)&&(l.q == p)then some (l.a,l.p)else none
def peerF:List Lk->Int->Int->Option (Int × Int)
 | [],_,_=>none
 | l::ls,d,p=>(bv l d p).or (peerF ls d p)
theorem vQ{ls:List Lk}{k:Nat}{l:Lk}(h:ls[k]?=some l)(d p:Int):peerF (ls.drop k) d p=(bv l d p).or (peerF (ls.drop (k+1)) d p):=by
 obtain⟨hk,e⟩:=List.getElem?_eq_some_iff.1 h;rw[List.drop_eq_getElem_cons hk,e];rfl
abbrev bS:Option (Int × Int)->Value
 | some x=>.agg #[x.1,x.2]
 | none=>.agg #[.int .i64 0,.int .i64 0]
theorem Links.at{a9:Nat}{w:World}{A:Option Addr}{n cap:Nat}{ls:List Lk}(h:Links a9 w (.slice A n cap) ls){k:Nat}{l:Lk}(hk:ls[k]?=some l) :
  ∃b o,A=some ⟨b,o,none⟩ /\ b<a9 /\ w.cell? ⟨b,o+k*4,none⟩=some (.int .i64 l.a) /\ w.cell? ⟨b,o+k*4+1,none⟩=some (.int .i64 l.p) /\ w.cell? ⟨b,o+k*4+2,none⟩=some (.int .i64 l.b) /\ w.cell? ⟨b,o+k*4+3,none⟩=some (.int .i64 l.q):=by
 obtain⟨A',e9,e,_,_,_,h3⟩:=h;cases e;obtain⟨b,o,ea,hl,hr⟩:=h3 (λe=>by subst e;simp at hk);obtain⟨cs,_,rfl,hc⟩:=hr k l hk;exact⟨b,o,ea,hl,hc 0 _ rfl,hc 1 _ rfl,hc 2 _ rfl,hc 3 _ rfl⟩
theorem Links.len{a9:Nat}{w:World}{A:Option Addr}{n cap:Nat}{ls:List Lk}(h:Links a9 w (.slice A n cap) ls):n=ls.length /\ n<=cap /\ cap<=maxLen:=by
 obtain⟨A',e9,e,_,h1,h2,_⟩:=h;cases e;exact⟨rfl,h1,h2⟩
def Box2(w:World)(n:Nat)(x y:Value):Prop:=n<w.heap.size /\ w.cell? ⟨n,0,none⟩=some x /\ w.cell? ⟨n,1,none⟩=some y /\ w.frozen? ⟨n,0,none⟩=false /\ w.frozen? ⟨n,1,none⟩=false
theorem Box2.below{B:Nat}{W w':World}{n:Nat}{x y:Value}(h:Box2 W n x y)(hb:Below B W w')(hB:n<B):Box2 w' n x y :=
 ⟨Nat.lt_of_lt_of_le h.1 hb.size,(hb.cell (p:=⟨n,0,none⟩) hB).trans h.2.1,(hb.cell (p:=⟨n,1,none⟩) hB).trans h.2.2.1,(hb.frozen (p:=⟨n,0,none⟩) hB).trans h.2.2.2.1,(hb.frozen (p:=⟨n,1,none⟩) hB).trans h.2.2.2.2⟩
theorem Box2.alloc{w:World}{n:Nat}{x y:Value}(h:Box2 w n x y)(o:Obj):Box2 (w.alloc o) n x y:=h.below ((Below.refl _ _).alloc (Nat.le_refl _) o) h.1
theorem fB(w:World)(x y:Value)(t:TypeId):Box2 (w.alloc (.cells #[x,y] t)) w.heap.size x y:=⟨by simp,by simp[go_sem],by simp[go_sem],by simp[go_sem],by simp[go_sem]⟩
def bg(bs:List Int)(ad:Int)(k:Nat):Int :=
 if h:k<bs.length then(if(decide (0<=bs[k])&&decide (bs[k]<=15))&&!(bs[k] == ad)&&!((bs.take k).any (λy=>y == bs[k]))then bg bs ad (k+1)else 1)else 0
termination_by bs.length-k
theorem ia{bs:List Int}{ad:Int}{k:Nat}{x:Int}(h:bs[k]?=some x):bg bs ad k=if(decide (0<=x)&&decide (x<=15))&&!(x == ad)&&!((bs.take k).any (λy=>y == x))then bg bs ad (k+1)else 1:=by
 obtain⟨hk,e⟩:=List.getElem?_eq_some_iff.1 h;rw[bg,dif_pos hk,e]
theorem ky{bs:List Int}{ad:Int}{k:Nat}(h:bs.length<=k):bg bs ad k=0:=by rw[bg,dif_neg (by omega)]
def hasAddr(k:Int):Bool:=(k == 1)||(k == 4)||(k == 5)
def dw(k ad:Int)(pl:Nat)(bs:List Int)(nr nt:Nat)(c:Int):Int :=
 if !(decide (1<=k)&&decide (k<=5))then 1
 else if(hasAddr k&&!(decide (0<=ad)&&decide (ad<=15)))||(!hasAddr k&&!(ad == 0))||(decide (0<pl) !=(k == 4))then 1
 else if 3<bs.length then 2
 else if(decide (bs.length=0) ==(k == 5))then 1
 else if bg bs ad 0=1 then 1
 else if(decide (0<nr)&&!(k == 2)&&!(k == 3))||(decide (0<nt)&&!(k == 2))then 1
 else if 8<nr then 2
 else c
def Seven(w:World)(n:Nat)(a b c d e f g:Value):Prop :=
 n<w.heap.size /\ w.cell? ⟨n,0,none⟩=some a /\ w.cell? ⟨n,1,none⟩=some b /\ w.cell? ⟨n,2,none⟩=some c /\ w.cell? ⟨n,3,none⟩=some d /\ w.cell? ⟨n,4,none⟩=some e /\ w.cell? ⟨n,5,none⟩=some f /\ w.cell? ⟨n,6,none⟩=some g
theorem kz(w:World)(a b c d e f g:Value)(t:TypeId):Seven (w.alloc (.cells #[a,b,c,d,e,f,g] t)) w.heap.size a b c d e f g :=
 ⟨by simp,by simp[go_sem],by simp[go_sem],by simp[go_sem],by simp[go_sem],by simp[go_sem],by simp[go_sem],by simp[go_sem]⟩
theorem Seven.below{B:Nat}{W w':World}{n:Nat}{a b c d e f g:Value}(h:Seven W n a b c d e f g)(hb:Below B W w')(hB:n<B):Seven w' n a b c d e f g:=by
 obtain⟨h0,h1,h2,h3,h4,h5,h6,h7⟩:=h;exact⟨Nat.lt_of_lt_of_le h0 hb.size,(hb.cell (p:=⟨n,0,none⟩) hB).trans h1,(hb.cell (p:=⟨n,1,none⟩) hB).trans h2,(hb.cell (p:=⟨n,2,none⟩) hB).trans h3,(hb.cell (p:=⟨n,3,none⟩) hB).trans h4,(hb.cell (p:=⟨n,4,none⟩) hB).trans h5,(hb.cell (p:=⟨n,5,none⟩) hB).trans h6,(hb.cell (p:=⟨n,6,none⟩) hB).trans h7⟩
theorem dI{B:Nat}{a w:World}(h:Below B a w)(n:Nat):Below B a (w.drewN n):=h.trans ⟨rfl,rfl,rfl,Nat.le_refl _,λ_ _=>rfl⟩
theorem Ints.at{a9:Nat}{w:World}{A:Option Addr}{n cap:Nat}{bs:List Int}(h:SlAt a9 w 1 IsI (.slice A n cap) bs){k:Nat}{x:Int}(hk:bs[k]?=some x) :
  ∃b o,A=some ⟨b,o,none⟩ /\ b<a9 /\ ∀j y,bs[j]?=some y->w.cell? ⟨b,o+j,none⟩=some (.int .i64 y):=by
 obtain⟨A',e9,e,_,_,_,h3⟩:=h;cases e;obtain⟨b,o,ea,hl,hr⟩:=h3 (λe=>by subst e;simp at hk);refine⟨b,o,ea,hl,λj y hy=>?_⟩;obtain⟨cs,_,rfl,hc⟩:=hr j y hy;have:=hc 0 _ rfl;rw[Nat.mul_one,Nat.add_zero]at this;exact this
theorem vR{bs:List Int}{j:Nat}{y x:Int}(h:bs[j]?=some y):(bs.take (j+1)).any (λz=>z == x)=((bs.take j).any (λz=>z == x)||(y == x)):=by
 obtain⟨hk,e⟩:=List.getElem?_eq_some_iff.1 h;rw[List.take_succ_eq_append_getElem hk,e];simp
def meetB(m l:Lk):Bool:=((m.a == l.a)&&(m.p == l.p))||((m.a == l.b)&&(m.p == l.q))||((m.b == l.a)&&(m.q == l.p))||((m.b == l.b)&&(m.q == l.q))
def selfB(l:Lk):Bool:=(l.a == l.b)&&(l.p == l.q)
theorem dJ{l:Lk}{d p:Int}{x:Int × Int}(h:bv l d p=some x):((l.a=d /\ l.p=p) /\ x=(l.b,l.q))\/((l.b=d /\ l.q=p) /\ x=(l.a,l.p)):=by
 unfold bv at h
 split at h
 ·rename_i hc
  simp only[Bool.and_eq_true,beq_iff_eq]at hc;exact .inl ⟨hc,(Option.some.inj h).symm⟩
 ·split at h
  ·rename_i hc
   simp only[Bool.and_eq_true,beq_iff_eq]at hc;exact .inr ⟨hc,(Option.some.inj h).symm⟩
  ·cases h
theorem vU(l:Lk):bv l l.a l.p=some (l.b,l.q):=by unfold bv;simp
theorem vV{l:Lk}(hs:selfB l=false):bv l l.b l.q=some (l.a,l.p):=by
 unfold bv;unfold selfB at hs;rw[hs];simp
theorem nW{l:Lk}{d p:Int}{x:Int × Int}(hs:selfB l=false)(h:bv l d p=some x):bv l x.1 x.2=some (d,p):=by
 rcases dJ h with⟨⟨rfl,rfl⟩,rfl⟩|⟨⟨rfl,rfl⟩,rfl⟩
 ·exact vV hs
 ·exact vU l
theorem vW{m l:Lk}{d p:Int}(h1:(bv m d p).isSome)(h2:(bv l d p).isSome):meetB m l=true:=by
 obtain⟨x,hx⟩:=Option.isSome_iff_exists.1 h1;obtain⟨y,hy⟩:=Option.isSome_iff_exists.1 h2;unfold meetB;rcases dJ hx with⟨⟨h1,h2⟩,_⟩|⟨⟨h1,h2⟩,_⟩ <;> rcases dJ hy with⟨⟨h3,h4⟩,_⟩|⟨⟨h3,h4⟩,_⟩ <;> simp[h1,h2,h3,h4]
theorem fC{ls:List Lk}{d p:Int}{x:Int × Int}(h:peerF ls d p=some x):∃l∈ls,bv l d p=some x:=by
 induction ls with
 | nil=>simp[peerF]at h
 | cons l ls ih =>
   rw[peerF]at h;cases he:bv l d p with
   | some y =>
     rw[he]at h;exact⟨l,by simp,by rw[he];simpa using h⟩
   | none =>
     rw[he]at h;obtain⟨m,hm,e⟩:=ih (by simpa using h);exact⟨m,by simp[hm],e⟩
def Apart(ls:List Lk):Prop:=ls.Pairwise (λm l=>meetB m l=false) /\ ∀l∈ls,selfB l=false
theorem Apart.tail{l:Lk}{ls:List Lk}(h:Apart (l::ls)):Apart ls:=⟨(List.pairwise_cons.1 h.1).2,λm hm=>h.2 m (by simp[hm])⟩
theorem dK{ls:List Lk}(hA:Apart ls){d p:Int}{x:Int × Int}(h:peerF ls d p=some x):peerF ls x.1 x.2=some (d,p):=by
 induction ls with
 | nil=>simp[peerF]at h
 | cons l ls ih =>
   rw[peerF]at h;cases he:bv l d p with
   | some y =>
     rw[he]at h;obtain rfl:y=x:=by simpa using h
     rw[peerF,nW (hA.2 l (by simp)) he];rfl
   | none =>
     rw[he]at h;have h':peerF ls d p=some x:=by simpa using h
     obtain⟨m,hm,e⟩:=fC h';have hb:=nW (hA.2 m (by simp[hm])) e;have hn:bv l x.1 x.2=none:=by
      cases hq:bv l x.1 x.2 with
      | none=>rfl
      | some z =>
        have:=vW (m:=l) (l:=m) (by rw[hq];rfl) (by rw[hb];rfl);rw[(List.pairwise_cons.1 hA.1).1 m hm]at this;cases this
     rw[peerF,hn,ih hA.tail h'];rfl
def dx(c:UInt8):Bool:=(decide (97<=(c.toNat:Int))&&decide ((c.toNat:Int)<=122))||(decide (48<=(c.toNat:Int))&&decide ((c.toNat:Int)<=57))
def nameOk(s:ByteArray):Bool:=decide (1<=s.size)&&decide (s.size<=8)&&s.data.toList.all dx
def rtOf(r:NRoute):Rt:=⟨r.v,r.b,r.p⟩
def aE(d:Dv):Int:=dw d.kind d.addr d.pool d.backs d.rules.length d.routes.length (checkV (d.routes.map rtOf))
def bE(ds:List Dv)(k:Nat)(d:Dv):Int:=if nameOk d.name then(if(ds.take k).any (λx=>x.name.toList == d.name.toList)then 5 else aE d)else 3
def bU(ds:List Dv)(k:Nat):Int :=
 if h:k<ds.length then(if bE ds k ds[k]=0 then bU ds (k+1)else bE ds k ds[k])else 0
termination_by ds.length-k
theorem dL{ds:List Dv}{k:Nat}{d:Dv}(h:ds[k]?=some d):bU ds k=if bE ds k d=0 then bU ds (k+1)else bE ds k d:=by
 obtain⟨hk,e⟩:=List.getElem?_eq_some_iff.1 h;rw[bU,dif_pos hk,e]
theorem kA{ds:List Dv}{k:Nat}(h:ds.length<=k):bU ds k=0:=by rw[bU,dif_neg (by omega)]
def aW(ds:List Dv)(d:Int):Int:=((ds[d.toNat]?).map (·.kind)).getD 0
def isPl(ds:List Dv)(d p:Int):Bool:=decide (0<=d)&&decide (d<(ds.length:Int))&&decide (0<=p)&&decide (p<portsV (aW ds d))
def cJ(ds:List Dv)(ls:List Lk)(k:Nat)(l:Lk):Int:=if isPl ds l.a l.p&&isPl ds l.b l.q then(if selfB l||(ls.take k).any (λm=>meetB m l)then 5 else 0)else 1
def cL(ds:List Dv)(ls:List Lk)(k:Nat):Int :=
 if h:k<ls.length then(if cJ ds ls k ls[k]=0 then cL ds ls (k+1)else cJ ds ls k ls[k])else 0
termination_by ls.length-k
theorem fZ{ds:List Dv}{ls:List Lk}{k:Nat}{l:Lk}(h:ls[k]?=some l):cL ds ls k=if cJ ds ls k l=0 then cL ds ls (k+1)else cJ ds ls k l:=by
 obtain⟨hk,e⟩:=List.getElem?_eq_some_iff.1 h;rw[cL,dif_pos hk,e]
theorem kB{ds:List Dv}{ls:List Lk}{k:Nat}(h:ls.length<=k):cL ds ls k=0:=by rw[cL,dif_neg (by omega)]
def netV(ds:List Dv)(ls:List Lk):Int:=if 10<ds.length\/15<ls.length then 2 else if bU ds 0=0 then cL ds ls 0 else bU ds 0
theorem nX{ds:List Dv}{ls:List Lk}:∀(m k:Nat),ls.length-k<=m->cL ds ls k=0->∀j l,k<=j->ls[j]?=some l->cJ ds ls j l=0
 | 0,k,h,_,j,l,hj,hl=>by
   have:=(List.getElem?_eq_some_iff.1 hl).1;omega
 | m+1,k,h,h0,j,l,hj,hl=>by
   have hjl:=(List.getElem?_eq_some_iff.1 hl).1;have hk:k<ls.length:=by omega
   rw[fZ (List.getElem?_eq_getElem hk)]at h0
   split at h0
   ·rename_i hw
    by_cases e:j=k
    ·subst e;rw[List.getElem?_eq_getElem hk,Option.some.injEq]at hl;rw[<- hl];exact hw
    ·exact nX m (k+1) (by omega) h0 j l (by omega) hl
   ·rename_i hw
    exact absurd h0 hw
theorem kC{ds:List Dv}{ls:List Lk}{k:Nat}{l:Lk}(h:cJ ds ls k l=0):isPl ds l.a l.p=true /\ isPl ds l.b l.q=true /\ selfB l=false /\ (ls.take k).any (λm=>meetB m l)=false:=by
 unfold cJ at h
 split at h
 ·rename_i h1
  simp only[Bool.and_eq_true]at h1
  split at h
  ·simp at h
  ·rename_i h2
   rw[Bool.not_eq_true,Bool.or_eq_false_iff]at h2;exact⟨h1.1,h1.2,h2.1,h2.2⟩
 ·simp at h
theorem bi{ds:List Dv}{ls:List Lk}(h:netV ds ls=0):ds.length<=10 /\ ls.length<=15 /\ Apart ls /\ ∀l∈ls,isPl ds l.a l.p=true /\ isPl ds l.b l.q=true:=by
 unfold netV at h
 split at h
 ·simp at h
 ·rename_i hn
  split at h
  ·have all:=nX ls.length 0 (by omega) h;have each:∀l∈ls,∃k,ls[k]?=some l:=λl hl=>by
    obtain⟨k,hk,e⟩:=List.mem_iff_getElem.1 hl;exact⟨k,by rw[List.getElem?_eq_getElem hk,e]⟩
   refine⟨by omega,by omega,⟨?_,λl hl=>?_⟩,λl hl=>?_⟩
   ·rw[List.pairwise_iff_getElem];intro i j hi hj hij;have:=(kC (all j _ (Nat.zero_le _) (List.getElem?_eq_getElem hj))).2.2.2;rw[List.any_eq_false]at this;have hm:=this ls[i] (by
     rw[List.mem_take_iff_getElem];exact⟨i,by omega,rfl⟩)
    simpa using hm
   ·obtain⟨k,hk⟩:=each l hl;exact(kC (all k _ (Nat.zero_le _) hk)).2.2.1
   ·obtain⟨k,hk⟩:=each l hl;have:=kC (all k _ (Nat.zero_le _) hk);exact⟨this.1,this.2.1⟩
  ·rename_i h0
   exact absurd h h0
theorem kD{a9:Nat}{w:World}{v:Value}{xs:List NRoute}(h:SlAt a9 w 3 br v xs):Routes a9 w v (xs.map rtOf):=by
 obtain⟨A,cap,rfl,h0,h1,h2,h3⟩:=h;refine⟨A,cap,by rw[List.length_map],h0,by rw[List.length_map];exact h1,h2,λhn=>?_⟩;obtain⟨b,o,ea,hl,hr⟩:=h3 (λe=>hn (by rw[e];rfl));refine⟨b,o,ea,hl,λj u hj=>?_⟩;have hjl:=(List.getElem?_eq_some_iff.1 hj).1;rw[nV,List.length_map]at hjl;have hk:j / 3<xs.length:=by omega
 have hx:xs[j / 3]?=some xs[j / 3]:=List.getElem?_eq_getElem hk;obtain⟨cs,_,rfl,hc⟩:=hr _ _ hx;obtain⟨c0,c1,c2⟩:=kx (xs.map rtOf) (j / 3) (rtOf xs[j / 3]) (by rw[List.getElem?_map,hx];rfl);have hm:j % 3=0\/j % 3=1\/j % 3=2:=by omega
 have ej:j=j / 3*3+j % 3:=by omega
 have eo:o+j=o+j / 3*3+j % 3:=by omega
 rw[eo];rcases hm with hm|hm|hm
 ·have:u=.int .i64 xs[j / 3].v:=by
   rw[show j=j / 3*3 by omega,c0]at hj;exact(Option.some.inj hj).symm
  rw[hm,this];exact hc 0 _ rfl
 ·have:u=.int .i64 xs[j / 3].b:=by
   rw[show j=j / 3*3+1 by omega,c1]at hj;exact(Option.some.inj hj).symm
  rw[hm,this];exact hc 1 _ rfl
 ·have:u=.int .i64 xs[j / 3].p:=by
   rw[show j=j / 3*3+2 by omega,c2]at hj;exact(Option.some.inj hj).symm
  rw[hm,this];exact hc 2 _ rfl
abbrev cR(nm:ByteArray)(k ad:Int)(pl:Nat)(vb vr vt:Value):Value:=.agg #[.string nm,k,ad,.int .u8 (pl:Int),vb,vr,vt]
abbrev lkA(a p b q:Int):Value:=.agg #[a,p,b,q]
abbrev plA(d p:Int):Value:=.agg #[d,p]
theorem jd(k:Int)(w:World):CS 62 #[k] w (.int .i64 (portsV k)):=by
 by_cases h1:k=1
 ·subst h1;go_enter func62,ntmps62;go_wp2_with fail;go_ret;exact⟨rfl,rfl⟩
 by_cases h2:k=2
 ·subst h2;go_enter func62,ntmps62;go_wp2_with fail;go_ret;exact⟨rfl,rfl⟩
 by_cases h3:k=3
 ·subst h3;go_enter func62,ntmps62;go_wp2_with fail;go_ret;exact⟨rfl,rfl⟩
 by_cases h4:k=4
 ·subst h4;go_enter func62,ntmps62;go_wp2_with fail;go_ret;exact⟨rfl,rfl⟩
 by_cases h5:k=5
 ·subst h5;go_enter func62,ntmps62;go_wp2_with fail;go_ret;exact⟨rfl,rfl⟩
 have e:portsV k=0:=by
  unfold portsV;rw[if_neg h1,if_neg h2,if_neg (by omega)]
 rw[e];have g1:(k == 1)=false:=beq_eq_false_iff_ne.2 h1;have g2:(k == 2)=false:=beq_eq_false_iff_ne.2 h2;have g3:(k == 3)=false:=beq_eq_false_iff_ne.2 h3;have g4:(k == 4)=false:=beq_eq_false_iff_ne.2 h4;have g5:(k == 5)=false:=beq_eq_false_iff_ne.2 h5;clear h1 h2 h3 h4 h5 e;go_enter func62,ntmps62;go_wp2_with fail;go_ret;exact⟨rfl,rfl⟩
theorem dM(a p b q:Int)(w:World):CB 96 #[lkA a p b q] w (plA a p):=by
 go_enter func96,ntmps96;go_wp2_with fail;refine bodyPost_ret (v:=plA a p) (by simp[results,results96,go_sem]) rfl ⟨rfl,?_⟩;exact Below.alN (Below.alN (Below.refl _ _) _) _
theorem dN(a p b q:Int)(w:World):CB 97 #[lkA a p b q] w (plA b q):=by
 go_enter func97,ntmps97;go_wp2_with fail;refine bodyPost_ret (v:=plA b q) (by simp[results,results97,go_sem]) rfl ⟨rfl,?_⟩;exact Below.alN (Below.alN (Below.refl _ _) _) _
theorem vX(k:Int)(w:World):CS 122 #[k] w (.bool (hasAddr k)):=by
 unfold hasAddr;cases h1:(k == 1)
 ·cases h4:(k == 4)
  ·go_enter func122,ntmps122;go_wp2_with fail;go_ret;exact⟨by simp,rfl⟩
  ·go_enter func122,ntmps122;go_wp2_with fail;go_ret;exact⟨by simp,rfl⟩
 ·go_enter func122,ntmps122;go_wp2_with fail;go_ret;exact⟨by simp,rfl⟩
def addrB(n:Int):Bool:=decide (0<=n)&&decide (n<16)
theorem nY(n:Int)(w:World):CS 123 #[n] w (.bool (addrB n)):=by
 unfold addrB;cases h1:decide (0<=n)
 ·go_enter func123,ntmps123;go_wp2_with fail;go_ret;exact⟨by simp,rfl⟩
 ·go_enter func123,ntmps123;go_wp2_with fail;go_ret;exact⟨by simp,rfl⟩
def addrF(k ad:Int):Bool:=if hasAddr k then addrB ad else ad == 0
theorem vY(nm:ByteArray)(k ad:Int)(pl:Nat)(vb vr vt:Value)(w:World):CB 89 #[cR nm k ad pl vb vr vt] w (.bool (addrF k ad)):=by
 have D0:=Below.alN (Below.refl w w) (.cells #[.string nm,k,ad,.int .u8 (pl:Int),vb,vr,vt] 70);have HA:Hid (∀w,CS 122 #[k] w (.bool (hasAddr k))):=λw=>vX k w;have IA:Hid (∀w,CS 123 #[ad] w (.bool (addrB ad))):=λw=>nY ad w;unfold addrF;generalize hasAddr k=x at *;generalize addrB ad=y at *;cases x
 ·go_enter func89,ntmps89;go_wp2_with fail;refine(HA.out _).mono ?_;rintro e w1⟨rfl,rfl⟩;go_wp2_with fail;go_ret;exact⟨rfl,D0⟩
 ·go_enter func89,ntmps89;go_wp2_with fail;refine(HA.out _).mono ?_;rintro e w1⟨rfl,rfl⟩;go_wp2_with fail;refine(IA.out _).mono ?_;rintro e w1⟨rfl,rfl⟩;go_wp2_with fail;go_ret;exact⟨rfl,D0⟩
def poolF(k:Int)(pl:Nat):Bool:=(!((pl:Int) == 0)) ==(k == 4)
theorem vZ(nm:ByteArray)(k ad:Int)(pl:Nat)(vb vr vt:Value)(w:World):CB 90 #[cR nm k ad pl vb vr vt] w (.bool (poolF k pl)):=by
 have D0:=Below.alN (Below.refl w w) (.cells #[.string nm,k,ad,.int .u8 (pl:Int),vb,vr,vt] 70);unfold poolF;cases h1:((pl:Int) == 0) <;> cases h2:(k == 4)
 all_goals
  go_enter func90,ntmps90;go_wp2_with fail;go_ret;exact⟨by first|rfl|(simp;simpa using h1)|simp,D0⟩
def listsF(k:Int)(nr nt:Nat):Bool:=((k == 2)||(k == 3)||decide (nr=0))&&((k == 2)||decide (nt=0))
theorem wg(nm:ByteArray)(k ad:Int)(pl:Nat)(vb:Value)(Ar At:Option Addr)(nr cr nt ct:Nat)(w:World):CB 92 #[cR nm k ad pl vb (.slice Ar nr cr) (.slice At nt ct)] w (.bool (listsF k nr nt)):=by
 have D0:=Below.alN (Below.refl w w) (.cells #[.string nm,k,ad,.int .u8 (pl:Int),vb,.slice Ar nr cr,.slice At nt ct] 70);unfold listsF;have er:decide (nr=0)=((nr:Int) == 0):=by rw[Bool.eq_iff_iff];simp
 have et:decide (nt=0)=((nt:Int) == 0):=by rw[Bool.eq_iff_iff];simp
 rw[er,et];clear er et;cases h2:(k == 2) <;> cases h3:(k == 3) <;> cases hr:((nr:Int) == 0) <;> cases ht:((nt:Int) == 0)
 all_goals
  go_enter func92,ntmps92;go_wp2_with fail;go_ret;exact⟨by first|rfl|simp,D0⟩
theorem wk(A:Option Addr)(n cap:Nat)(w:World):CS 93 #[.slice A n cap] w (.int .i64 (if 8<n then 2 else 0)):=by
 by_cases h:8<n
 ·have t:decide ((8:Int)<(n:Int))=true:=by simp;omega
  rw[if_pos h];go_enter func93,ntmps93;go_wp2_with fail;go_ret;exact⟨rfl,rfl⟩
 ·have t:decide ((8:Int)<(n:Int))=false:=by simp;omega
  rw[if_neg h];go_enter func93,ntmps93;go_wp2_with fail;go_ret;exact⟨rfl,rfl⟩
theorem cT(a b c d:Int)(w:World):(binOp .eql 27 (plA a b) (plA c d)).run prog w=.ok (.bool ((a == c)&&(b == d))) w:=by
 cases h1:(a == c) <;> cases h2:(b == d)
 all_goals simp[go_sem,underlying27,underlying3,h1,h2]
theorem Box2.drew{w:World}{n:Nat}{x y:Value}(h:Box2 w n x y):Box2 w.drew n x y:=h
def Lk4(w:World)(n:Nat)(a b c d:Value):Prop:=n<w.heap.size /\ w.cell? ⟨n,0,none⟩=some a /\ w.cell? ⟨n,1,none⟩=some b /\ w.cell? ⟨n,2,none⟩=some c /\ w.cell? ⟨n,3,none⟩=some d
theorem je(w:World)(a b c d:Value)(t:TypeId):Lk4 (w.alloc (.cells #[a,b,c,d] t)) w.heap.size a b c d:=⟨by simp,by simp[go_sem],by simp[go_sem],by simp[go_sem],by simp[go_sem]⟩
theorem Lk4.below{B:Nat}{W w':World}{n:Nat}{a b c d:Value}(h:Lk4 W n a b c d)(hb:Below B W w')(hB:n<B):Lk4 w' n a b c d:=by
 obtain⟨h0,h1,h2,h3,h4⟩:=h;exact⟨Nat.lt_of_lt_of_le h0 hb.size,(hb.cell (p:=⟨n,0,none⟩) hB).trans h1,(hb.cell (p:=⟨n,1,none⟩) hB).trans h2,(hb.cell (p:=⟨n,2,none⟩) hB).trans h3,(hb.cell (p:=⟨n,3,none⟩) hB).trans h4⟩
theorem Lk4.alloc{w:World}{n:Nat}{a b c d:Value}(h:Lk4 w n a b c d)(o:Obj):Lk4 (w.alloc o) n a b c d:=h.below ((Below.refl _ _).alloc (Nat.le_refl _) o) h.1
theorem Lk4.drew{w:World}{n:Nat}{a b c d:Value}(h:Lk4 w n a b c d):Lk4 w.drew n a b c d:=h
theorem ib(vd:Value)(A:Option Addr)(n cap:Nat)(ls:List Lk)(d p:Int)(w:World)(hL:Hid (Links w w (.slice A n cap) ls)) :
  CB 59 #[.agg #[vd,.slice A n cap],plA d p] w (.tuple #[bS (peerF ls d p),.bool (peerF ls d p).isSome]):=by
 obtain⟨rfl,hc,hm⟩:=hL.out.len;unfold maxLen at hm;have D1:=Below.alN (Below.refl w w) (.cells #[vd,.slice A ls.length cap] 25);have D2:=Below.alN D1 (.cells #[d,p] 27);have D3:=Below.alN D2 (.cells #[.int .i64 0,.int .i64 0] 27);have B1:=((fB w vd (.slice A ls.length cap) 25).alloc (.cells #[d,p] 27)).alloc (.cells #[.int .i64 0,.int .i64 0] 27);have B2:=(fB (w.alloc (.cells #[vd,.slice A ls.length cap] 25)) (.int .i64 d) (.int .i64 p) 27).alloc (.cells #[.int .i64 0,.int .i64 0] 27);have B3:=fB ((w.alloc (.cells #[vd,.slice A ls.length cap] 25)).alloc (.cells #[d,p] 27)) (.int .i64 0) (.int .i64 0) 27;simp only[World.size_alloc]at B2 B3;go_enter func59,ntmps59;go_wp2_with fail;go_loopw[11] (λi wr=>∃k:Nat,i=.int .i64 (k:Int) /\ k<=ls.length /\ Below w w wr /\ Box2 wr w.heap.size vd (.slice A ls.length cap) /\ Box2 wr (w.heap.size+1) (.int .i64 d) (.int .i64 p) /\ Box2 wr (w.heap.size+1+1) (.int .i64 0) (.int .i64 0) /\ Hid (peerF ls d p=peerF (ls.drop k) d p)) (λi _=>ls.length-(intOf i).toNat)
 case atStart=>exact⟨0,rfl,by omega,D3,B1,B2,B3,rfl⟩
 case round =>
  clear B1 B2 B3 D1 D2 D3;obtain⟨k,rfl,hk,D1,B1,B2,B3,hl⟩:=hrel;obtain⟨n1,e0,e1,_⟩:=id B1;by_cases hlt:k<ls.length
  ·obtain⟨l,hlk⟩:∃l,ls[k]?=some l:=⟨_,List.getElem?_eq_getElem hlt⟩;obtain⟨b,o,rfl,hb,c0,c1,c2,c3⟩:=(hL.out.below D1).at hlk;have Hd:Hid (peerF (ls.drop k) d p=(bv l d p).or (peerF (ls.drop (k+1)) d p)):=vQ hlk d p;have D2:=Below.alN D1 (.cells #[.int .i64 l.a,.int .i64 l.p,.int .i64 l.b,.int .i64 l.q] 118);have E1:=B1.alloc (.cells #[.int .i64 l.a,.int .i64 l.p,.int .i64 l.b,.int .i64 l.q] 118);have E2:=B2.alloc (.cells #[.int .i64 l.a,.int .i64 l.p,.int .i64 l.b,.int .i64 l.q] 118);have E3:=B3.alloc (.cells #[.int .i64 l.a,.int .i64 l.p,.int .i64 l.b,.int .i64 l.q] 118);have k1:(0:Int)<=(k:Int):=by omega
   have k2:(k:Int)<(ls.length:Int):=by omega
   have lw:=D1.size;have FR:Hid (∀w,CB 96 #[lkA l.a l.p l.b l.q] w (plA l.a l.p)):=λw=>dM _ _ _ _ w;have TO:Hid (∀w,CB 97 #[lkA l.a l.p l.b l.q] w (plA l.b l.q)):=λw=>dN _ _ _ _ w;unfold bv at Hd;clear hlk hL;generalize l.a=la at *;generalize l.p=lp at *;generalize l.b=lb at *;generalize l.q=lq at *;have L0:=je wr (.int .i64 la) (.int .i64 lp) (.int .i64 lb) (.int .i64 lq) 118;obtain⟨n2,f0,f1,f2,f3⟩:=id E2;have P1:=λw=>cT la lp d p w;have P2:=λw=>cT lb lq d p w;generalize ((la == d)&&(lp == p))=x0 at *;generalize ((lb == d)&&(lq == p))=x1 at *;go_wp2_with fail;go_region_held3 (λw'=>w'.cell? ⟨wr,0,none⟩=some (.int .i64 la) /\ w'.cell? ⟨wr,1,none⟩=some (.int .i64 lp) /\ w'.cell? ⟨wr,2,none⟩=some (.int .i64 lb) /\ w'.cell? ⟨wr,3,none⟩=some (.int .i64 lq) /\ w'.cell? ⟨w.heap.size+1,0,none⟩=some (.int .i64 d) /\ w'.cell? ⟨w.heap.size+1,1,none⟩=some (.int .i64 p)) (go_keep) ((go_at_call 96;refine(FR.out _).mono ?_;rintro e w2⟨rfl,hb2⟩;have D3:=aa hb2 D2.drew;have G1:=E1.drew.below hb2 E1.1;have G2:=E2.drew.below hb2 E2.1;have G3:=E3.drew.below hb2 E3.1;have G4:=L0.drew.below hb2 L0.1;obtain⟨_,g0,g1,_⟩:=id G2;obtain⟨_,g2,g3,g4,g5⟩:=id G4))
   clear E1 E2 E3 L0 f0 f1 f2 f3 c0 c1 c2 c3 e0 e1;cases x0
   ·go_wp2_with fail;go_region_held3 (λw'=>w'.cell? ⟨wr,0,none⟩=some (.int .i64 la) /\ w'.cell? ⟨wr,1,none⟩=some (.int .i64 lp) /\ w'.cell? ⟨wr,2,none⟩=some (.int .i64 lb) /\ w'.cell? ⟨wr,3,none⟩=some (.int .i64 lq) /\ w'.cell? ⟨w.heap.size+1,0,none⟩=some (.int .i64 d) /\ w'.cell? ⟨w.heap.size+1,1,none⟩=some (.int .i64 p)) (go_keep) ((go_at_call 97;refine(TO.out _).mono ?_;rintro e w3⟨rfl,hb3⟩;have D4:=aa hb3 D3.drew;have J1:=G1.drew.below hb3 G1.1;have J2:=G2.drew.below hb3 G2.1;have J3:=G3.drew.below hb3 G3.1;have J4:=G4.drew.below hb3 G4.1;obtain⟨_,j0,j1,_⟩:=id J2;obtain⟨_,j2,j3,j4,j5⟩:=id J4))
    clear g0 g1 g2 g3 g4 g5 G1 G2 G3 G4;cases x1
    ·have Hn:Hid (peerF ls d p=peerF (ls.drop (k+1)) d p):=by show _=_;rw[hl.out,Hd.out];rfl
     go_wp2_with fail;go_roundw
     case rel=>exact⟨k+1,by go_num,by omega,D4,J1,J2,J3,Hn⟩
     case measure=>simp[intOf];omega
    ·have Hn:Hid (peerF ls d p=some (la,lp)):=by show _=_;rw[hl.out,Hd.out];rfl
     clear hl Hd;go_wp2_with fail;refine(FR.out _).mono ?_;rintro e w4⟨rfl,hb4⟩;have D5:=aa hb4 D4;have K3:=J3.below hb4 J3.1;obtain⟨n3,g0,g1,g2,g3⟩:=id K3;clear J1 J2 J3 J4 hb4;go_wp2_with fail;refine bodyPost_ret (v:=.tuple #[.agg #[la,lp],.bool true]) (by simp[results,results59,go_sem,g0,g1]) rfl ⟨by rw[Hn.out];rfl,?_⟩;exact(D5.setCell (by simp;omega) _).setCell (by simp;omega) _
   ·have Hn:Hid (peerF ls d p=some (lb,lq)):=by show _=_;rw[hl.out,Hd.out];rfl
    clear hl Hd;go_wp2_with fail;refine(TO.out _).mono ?_;rintro e w4⟨rfl,hb4⟩;have D5:=aa hb4 D3;have K3:=G3.below hb4 G3.1;clear g0 g1 g2 g3 g4 g5 G1 G2 G3 G4 hb4;obtain⟨n3,g0,g1,g2,g3⟩:=id K3;go_wp2_with fail;refine bodyPost_ret (v:=.tuple #[.agg #[lb,lq],.bool true]) (by simp[results,results59,go_sem,g0,g1]) rfl ⟨by rw[Hn.out];rfl,?_⟩;exact(D5.setCell (by simp;omega) _).setCell (by simp;omega) _
  ·have Hn:Hid (peerF ls d p=none):=by show _=_;rw[hl.out,List.drop_eq_nil_of_le (by omega)];rfl
   obtain⟨n3,g0,g1,g2,g3⟩:=id B3;go_wp2_with fail;refine bodyPost_ret (v:=.tuple #[.agg #[.int .i64 0,.int .i64 0],.bool false]) (by simp[results,results59,go_sem,g0,g1]) rfl ⟨by rw[Hn.out];rfl,?_⟩;exact(D1.setCell (by simp;omega) _).setCell (by simp;omega) _
theorem wm(s:ByteArray)(k:Nat)(h:k<s.size):(s.data.toList.drop k).all dx=(dx s[k]&&(s.data.toList.drop (k+1)).all dx):=by
 rw[List.drop_eq_getElem_cons (by rw[<- Lib.size_eq];exact h),List.all_cons];rfl
theorem wo(s:ByteArray)(w:World)(h1:1<=s.size)(h8:s.size<=8)(res:Bool)(hres:Hid (s.data.toList.all dx=res)) :
  CS 87 #[.string s] w (.bool res):=by
 have t1:decide ((s.size:Int)<1)=false:=by simp;omega
 have t8:decide ((8:Int)<(s.size:Int))=false:=by simp;omega
 go_enter func87,ntmps87;go_wp2_with fail
 go_loop [16] (λi=>∃k:Nat,k<=s.size /\ i=.int .i64 k /\ Hid ((s.data.toList.drop k).all dx=res)) (λi=>s.size-(intOf i).toNat)
 case atStart=>exact⟨0,by omega,rfl,hres⟩
 case round =>
  obtain⟨k,hk,rfl,HD⟩:=hrel;by_cases hlt:k<s.size
  ·have HS:Hid ((s.data.toList.drop k).all dx=(dx s[k]&&(s.data.toList.drop (k+1)).all dx)):=wm s k hlt;have HN:Hid (dx s[k]=((decide (97<=(s[k].toNat:Int))&&decide ((s[k].toNat:Int)<=122))||(decide (48<=(s[k].toNat:Int))&&decide ((s[k].toNat:Int)<=57)))):=rfl;cases a1:decide (97<=(s[k].toNat:Int)) <;> cases a2:decide ((s[k].toNat:Int)<=122) <;> cases a3:decide (48<=(s[k].toNat:Int)) <;> cases a4:decide ((s[k].toNat:Int)<=57)
   all_goals
    rw[a1,a2,a3,a4]at HN;first
     | (have HV : Hid ((s.data.toList.drop (k + 1)).all dx    = res) := by
         show _=_;rw[<- HD.out,HS.out,HN.out];rfl
        clear HN HS HD;go_wp2_with fail
        go_round
        case rel=>exact⟨k+1,by omega,congrArg (Value.int .i64) (by omega),HV⟩
        case measure=>simp[intOf];omega)
     | (have HV : Hid (res = false) := by
         show _=_;rw[<- HD.out,HS.out,HN.out];rfl
        clear HN HS HD;go_wp2_with fail;go_ret;exact⟨by rw[HV.out];rfl,rfl⟩)
  ·have HV:Hid (res=true):=by
    show _=_;rw[<- HD.out,List.drop_eq_nil_of_le (by rw[<- Lib.size_eq];omega)];rfl
   go_wp2_with fail;go_ret;exact⟨by rw[HV.out];rfl,rfl⟩
theorem ws(s:ByteArray)(w:World):CS 87 #[.string s] w (.bool (nameOk s)):=by
 unfold nameOk;by_cases h1:1<=s.size
 ·by_cases h8:s.size<=8
  ·simp only[h1,h8,decide_true,Bool.true_and];exact wo s w h1 h8 _ rfl
  ·simp only[h1,h8,decide_true,decide_false,Bool.and_false,Bool.false_and];have t1:decide ((s.size:Int)<1)=false:=by simp;omega
   have t8:decide ((8:Int)<(s.size:Int))=true:=by simp;omega
   go_enter func87,ntmps87;go_wp2_with fail;go_ret;exact⟨rfl,rfl⟩
 ·simp only[h1,decide_false,Bool.false_and];have t1:decide ((s.size:Int)<1)=true:=by simp;omega
  go_enter func87,ntmps87;go_wp2_with fail;go_ret;exact⟨rfl,rfl⟩
def findFrom(ds:List Dv)(s:List UInt8)(k:Nat):Int :=
 if h:k<ds.length then(if ds[k].name.toList == s then(k:Int)else findFrom ds s (k+1))else -1
termination_by ds.length-k
theorem nZ{ds:List Dv}{s:List UInt8}{k:Nat}{d:Dv}(h:ds[k]?=some d):findFrom ds s k=if d.name.toList == s then(k:Int)else findFrom ds s (k+1):=by
 obtain⟨hk,e⟩:=List.getElem?_eq_some_iff.1 h;rw[findFrom,dif_pos hk,e]
theorem kE{ds:List Dv}{s:List UInt8}{k:Nat}(h:ds.length<=k):findFrom ds s k=-1:=by rw[findFrom,dif_neg (by omega)]
theorem od(ds:List Dv)(s:List UInt8):∀(m k:Nat),ds.length-k<=m->decide (0<=findFrom ds s k)=(ds.drop k).any (λx=>x.name.toList == s)
 | 0,k,h=>by rw[kE (by omega),List.drop_eq_nil_of_le (by omega)];rfl
 | m+1,k,h=>by
   by_cases hk:k<ds.length
   ·rw[nZ (List.getElem?_eq_getElem hk),List.drop_eq_getElem_cons hk,List.any_cons,<- od ds s m (k+1) (by omega)];cases e:(ds[k].name.toList == s)
    ·simp
    ·simp
   ·rw[kE (by omega),List.drop_eq_nil_of_le (by omega)];rfl
theorem wt(ds:List Dv)(s:List UInt8):decide (0<=findFrom ds s 0)=ds.any (λx=>x.name.toList == s):=od ds s ds.length 0 (by omega)
theorem Devs.at{a9:Nat}{w:World}{A:Option Addr}{n cap:Nat}{ds:List Dv}(h:Devs a9 w (.slice A n cap) ds){k:Nat}{d:Dv}(hk:ds[k]?=some d) :
  ∃b o vb vr vt,A=some ⟨b,o,none⟩ /\ b<a9 /\ SlAt a9 w 1 IsI vb d.backs /\ SlAt a9 w 5 aY vr d.rules /\ SlAt a9 w 3 br vt d.routes /\
    w.cell? ⟨b,o+k*7,none⟩=some (.string d.name) /\ w.cell? ⟨b,o+k*7+1,none⟩=some (.int .i64 d.kind) /\ w.cell? ⟨b,o+k*7+2,none⟩=some (.int .i64 d.addr) /\ w.cell? ⟨b,o+k*7+3,none⟩=some (.int .u8 (d.pool:Int)) /\ w.cell? ⟨b,o+k*7+4,none⟩=some vb /\ w.cell? ⟨b,o+k*7+5,none⟩=some vr /\ w.cell? ⟨b,o+k*7+6,none⟩=some vt:=by
 obtain⟨A',e9,e,_,_,_,h3⟩:=h;cases e;obtain⟨b,o,ea,hl,hr⟩:=h3 (λe=>by subst e;simp at hk);obtain⟨cs,_,⟨vb,vr,vt,rfl,s1,s2,s3⟩,hc⟩:=hr k d hk;exact⟨b,o,vb,vr,vt,ea,hl,s1,s2,s3,hc 0 _ rfl,hc 1 _ rfl,hc 2 _ rfl,hc 3 _ rfl,hc 4 _ rfl,hc 5 _ rfl,hc 6 _ rfl⟩
theorem Devs.len{a9:Nat}{w:World}{A:Option Addr}{n cap:Nat}{ds:List Dv}(h:Devs a9 w (.slice A n cap) ds):n=ds.length /\ n<=cap /\ cap<=maxLen:=by
 obtain⟨A',e9,e,_,h1,h2,_⟩:=h;cases e;exact⟨rfl,h1,h2⟩
theorem SlAt.take{α:Type}{a9:Nat}{w:World}{n:Nat}{R:List Value->α->Prop}{A:Option Addr}{m cap:Nat}{xs:List α}(h:SlAt a9 w n R (.slice A m cap) xs)(k:Nat)(hk:k<=xs.length):SlAt a9 w n R (.slice A k cap) (xs.take k):=by
 obtain⟨A',e9,e,h0,h1,h2,h3⟩:=h;cases e;refine⟨A,cap,by rw[List.length_take,Nat.min_eq_left hk],h0,by rw[List.length_take];omega,h2,λhn=>?_⟩;obtain⟨b,o,ea,hl,hr⟩:=h3 (λe=>hn (by rw[e,List.take_nil]));refine⟨b,o,ea,hl,λj x hx=>hr j x ?_⟩;rw[List.getElem?_take]at hx
 split at hx
 ·exact hx
 ·cases hx
theorem wu(nm s:ByteArray)(k ad:Int)(pl:Nat)(vb vr vt:Value)(n0:Nat)(w:World)(hn:n0<w.heap.size)(hc:w.cell? ⟨n0,0,none⟩=some (.string s)) :
  CB 121 #[cR nm k ad pl vb vr vt,.pointer n0] w (.bool (nm.toList == s.toList)):=by
 have D0:=Below.alN (Below.refl w w) (.cells #[.string nm,k,ad,.int .u8 (pl:Int),vb,vr,vt] 70);have c1:(w.alloc (.cells #[.string nm,k,ad,.int .u8 (pl:Int),vb,vr,vt] 70)).cell? ⟨n0,0,none⟩=some (.string s):=(D0.cell (p:=⟨n0,0,none⟩) hn).trans hc;go_enter func121,ntmps121;go_wp2_with fail;go_ret;exact⟨rfl,D0⟩
theorem wv(A:Option Addr)(n cap:Nat)(ds:List Dv)(s:ByteArray)(n0:Nat)(w:World)(hD:Hid (Devs w w (.slice A n cap) ds))(hn0:n0<w.heap.size)(hc0:Hid (w.cell? ⟨n0,0,none⟩=some (.string s))) :
  CB 79 #[.slice A n cap,.func (.func 121) #[] #[.pointer n0]] w (.int .i64 (findFrom ds s.toList 0)):=by
 obtain⟨rfl,hc,hm⟩:=hD.out.len;unfold maxLen at hm;generalize hres:findFrom ds s.toList 0=res;have HR:Hid (findFrom ds s.toList 0=res):=hres;clear hres;go_enter func79,ntmps79;go_wp2_with fail;go_loopw[8] (λi wr=>∃k:Nat,i=.int .i64 (k:Int) /\ k<=ds.length /\ Below w w wr /\ Hid (findFrom ds s.toList k=res)) (λi _=>ds.length-(intOf i).toNat)
 case atStart=>exact⟨0,rfl,by omega,Below.refl _ _,HR⟩
 case round =>
  obtain⟨k,rfl,hk,D1,hno⟩:=hrel;by_cases hlt:k<ds.length
  ·obtain⟨d,hxk⟩:∃d,ds[k]?=some d:=⟨_,List.getElem?_eq_getElem hlt⟩;obtain⟨b,o,vb,vr,vt,rfl,hb,_,_,_,c0,c1,c2,c3,c4,c5,c6⟩:=(hD.out.below D1).at hxk;have PR:Hid (CB 121 #[cR d.name d.kind d.addr d.pool vb vr vt,.pointer n0] wr (.bool (d.name.toList == s.toList))):=wu d.name s d.kind d.addr d.pool vb vr vt n0 wr (Nat.lt_of_lt_of_le hn0 D1.size) ((D1.cell (p:=⟨n0,0,none⟩) hn0).trans hc0.out);have HF:Hid (findFrom ds s.toList k=if d.name.toList == s.toList then(k:Int)else findFrom ds s.toList (k+1)):=nZ hxk;have k1:(0:Int)<=(k:Int):=by omega
   have k2:(k:Int)<(ds.length:Int):=by omega
   clear hxk hD HR hc0;generalize (d.name.toList == s.toList)=x at *;generalize d.name=nm at *;generalize d.kind=kd at *;generalize d.addr=ad at *;generalize d.pool=pl at *;cases x
   ·have HV:Hid (findFrom ds s.toList (k+1)=res):=by
     show _=_;rw[<- hno.out,HF.out];simp
    clear HF hno;go_wp2_with fail;refine PR.out.mono ?_;rintro e w2⟨rfl,hb2⟩;have D2:=aa hb2 D1;clear hb2 D1 c0 c1 c2 c3 c4 c5 c6 PR;go_wp2_with fail;go_roundw
    case rel=>exact⟨k+1,by go_num,by omega,D2,HV⟩
    case measure=>simp[intOf];omega
   ·have HV:Hid (res=(k:Int)):=by
     show _=_;rw[<- hno.out,HF.out];simp
    clear HF hno;go_wp2_with fail;refine PR.out.mono ?_;rintro e w2⟨rfl,hb2⟩;have D2:=aa hb2 D1;clear hb2 D1 c0 c1 c2 c3 c4 c5 c6 PR;go_wp2_with fail;go_ret;exact⟨by rw[HV.out];rfl,D2⟩
  ·have HV:Hid (res=-1):=by
    show _=_;rw[<- hno.out,kE (by omega)]
   go_wp2_with fail;go_ret;exact⟨by rw[HV.out];rfl,D1⟩
theorem wA(A:Option Addr)(n cap:Nat)(ds:List Dv)(s:ByteArray)(w:World)(hD:Devs w w (.slice A n cap) ds) :
  CB 88 #[.slice A n cap,.string s] w (.tuple #[.int .i64 (if 0<=findFrom ds s.toList 0 then findFrom ds s.toList 0 else 0),.bool (decide (0<=findFrom ds s.toList 0))]):=by
 have D0:=Below.alN (Below.refl w w) (.cells #[.string s] 9);have FI:Hid (CB 79 #[.slice A n cap,.func (.func 121) #[] #[.pointer (some ⟨w,0,none⟩)]] (w.alloc (.cells #[.string s] 9)) (.int .i64 (findFrom ds s.toList 0))):=wv A n cap ds s w.heap.size _ ((hD.below D0).mono D0.size) (by simp) (by show _=_;simp[go_sem]);clear hD;generalize findFrom ds s.toList 0=j at *;cases h:decide (0<=j)
 ·have h1:¬ 0<=j:=by simpa using h
  have h2:j<0:=by omega
  rw[if_neg h1];go_enter func88,ntmps88;go_wp2_with fail;refine FI.out.mono ?_;rintro e w1⟨rfl,hb1⟩;have D1:=aa hb1 D0;go_wp2_with fail;go_ret2;exact⟨by simp,D1⟩
 ·have h1:0<=j:=by simpa using h
  rw[if_pos h1];go_enter func88,ntmps88;go_wp2_with fail;refine FI.out.mono ?_;rintro e w1⟨rfl,hb1⟩;have D1:=aa hb1 D0;go_wp2_with fail;go_ret2;exact⟨by simp,D1⟩
abbrev st(b n:Int):Value:=.agg #[b,n]
abbrev mt(a b c d:Nat):Value:=.agg #[.int .u16 (a:Int),.int .u16 (b:Int),.int .u8 (c:Int),.int .u8 (d:Int)]
abbrev pk(a b c d:Int):Value:=.agg #[a,b,c,d]
def hasB(b:Nat)(n:Int):Bool:=decide (0<=n)&&b.testBit n.toNat
theorem ag{W0 W w':World}(hb:Below W W w')(h:Below W0 W0 W):Below W0 W0 w':=h.trans (hb.mono h.size)
theorem Below.alloc'{W0 w:World}(h:Below W0 W0 w)(o:Obj):Below W0 W0 (w.alloc o):=h.alloc h.size o
def Four(w:World)(n:Nat)(a b c d:Value):Prop :=
 n<w.heap.size /\ w.cell? ⟨n,0,none⟩=some a /\ w.cell? ⟨n,1,none⟩=some b /\ w.cell? ⟨n,2,none⟩=some c /\ w.cell? ⟨n,3,none⟩=some d
theorem aC{W w':World}{n:Nat}{a b c d:Value}(hb:Below W W w')(h:Four W n a b c d):Four w' n a b c d:=by
 obtain⟨h0,h1,h2,h3,h4⟩:=h;exact⟨Nat.lt_of_lt_of_le h0 hb.size,(hb.cell (p:=⟨n,0,none⟩) h0).trans h1,(hb.cell (p:=⟨n,1,none⟩) h0).trans h2,(hb.cell (p:=⟨n,2,none⟩) h0).trans h3,(hb.cell (p:=⟨n,3,none⟩) h0).trans h4⟩
theorem Four.drew{w:World}{n:Nat}{a b c d:Value}(h:Four w n a b c d):Four w.drew n a b c d:=h
theorem jf(w:World)(a b c d:Value)(t:TypeId):Four (w.alloc (.cells #[a,b,c,d] t)) w.heap.size a b c d :=
 ⟨by simp,by simp[go_sem],by simp[go_sem],by simp[go_sem],by simp[go_sem]⟩
theorem oe{w:World}{n:Nat}{a b c d:Value}(h:Four w n a b c d)(o:Obj):Four (w.alloc o) n a b c d:=aC ((Below.refl _ _).alloc (Nat.le_refl _) o) h
theorem bj{w':World}{n1 n2:Nat}{a1 b1 c1 d1 a2 b2 c2 d2:Value}(h1:Four w' n1 a1 b1 c1 d1)(h2:Four w' n2 a2 b2 c2 d2) :
  w'.cell? ⟨n1,0,none⟩=some a1 /\ w'.cell? ⟨n1,1,none⟩=some b1 /\ w'.cell? ⟨n1,2,none⟩=some c1 /\ w'.cell? ⟨n1,3,none⟩=some d1 /\
  w'.cell? ⟨n2,0,none⟩=some a2 /\ w'.cell? ⟨n2,1,none⟩=some b2 /\ w'.cell? ⟨n2,2,none⟩=some c2 /\ w'.cell? ⟨n2,3,none⟩=some d2 :=
 ⟨h1.2.1,h1.2.2.1,h1.2.2.2.1,h1.2.2.2.2,h2.2.1,h2.2.2.1,h2.2.2.2.1,h2.2.2.2.2⟩
theorem jg(b:Nat)(w:World)(h1:b<65536) :
  CB 104 #[.int .u16 (b:Int)] w (st b 16):=by
 go_enter func104,ntmps104;go_wp2_with fail;exact bodyPost_ret (v:=st b 16) (by simp[results,results104,go_sem]) rfl ⟨rfl,by go_grown⟩
theorem jh(b:Nat)(w:World)(h1:b<256) :
  CB 102 #[.int .u8 (b:Int)] w (st b 8):=by
 go_enter func102,ntmps102;go_wp2_with fail;exact bodyPost_ret (v:=st b 8) (by simp[results,results102,go_sem]) rfl ⟨rfl,by go_grown⟩
theorem wB(b n:Nat)(hb:b<2 ^ 62):Op.shift .shr .i64 (b:Int) .i64 (n:Int)=(pure (.int .i64 ((b >>> n:Nat):Int)):Sem Value):=by
 by_cases h:n<=64
 ·rw[shift_shr _ _ _ _ (by omega) (by show(n:Int)<=64;omega),Nat.shiftRight_eq_div_pow,Int.toNat_natCast];simp
 ·have hp:2 ^ 64<=2 ^ n:=Nat.pow_le_pow_right (by omega) (by omega);have e:b >>> n=0:=by rw[Nat.shiftRight_eq_div_pow,Nat.div_eq_of_lt (by omega)]
  have hm:min n IntKind.i64.bits=64:=by show min n 64=64;omega
  have hf:(b:Int).fdiv (2 ^ 64)=0:=by
   rw[Int.fdiv_eq_ediv_of_nonneg _ (by decide),Int.ediv_eq_zero_of_lt (by omega) (by omega)]
  rw[e];simp only[Op.shift,Int.toNat_natCast,hm,hf];rw[if_neg (by omega)];rfl
theorem wC(q:Nat)(hq:q<2 ^ 62):(Go.bits .and .i64 (q:Int) 1 == 1)=(q % 2 == 1):=by
 have e1:BitVec.ofInt 64 (q:Int)=BitVec.ofNat 64 q:=by simp
 have hm:(BitVec.ofNat 64 q &&& BitVec.ofInt 64 1).toNat=q % 2:=by
  rw[show BitVec.ofInt 64 1=BitVec.ofNat 64 1 by rfl,BitVec.toNat_and,BitVec.toNat_ofNat,BitVec.toNat_ofNat,Nat.mod_eq_of_lt (show q<2 ^ 64 by omega)];exact Nat.and_one_is_mod q
 have e2:Go.bits .and .i64 (q:Int) 1=((q % 2:Nat):Int):=by
  show IntKind.i64.wrap ((BitVec.ofInt 64 (q:Int) &&& BitVec.ofInt 64 1).toNat:Int)=_;rw[e1,hm,IntWalk.i64_in _ (by omega)]
 rw[e2];have:q % 2=0\/q % 2=1:=by omega
 rcases this with h|h <;> rw[h] <;> rfl
theorem ic(b:Nat)(n z:Int)(w:World)(h1:b<65536) :
  CB 129 #[st b z,n] w (.bool (hasB b n)):=by
 by_cases hn:0<=n
 ·obtain⟨k,rfl⟩:∃k:Nat,n=k:=⟨n.toNat,by omega⟩;have t:decide (0<=(k:Int))=true:=by simp
  have hs:=wB b k (by omega);have hle:b >>> k<=b:=by rw[Nat.shiftRight_eq_div_pow];exact Nat.div_le_self _ _
  have he:Hid ((Go.bits .and .i64 ((b >>> k:Nat):Int) 1 == 1)=hasB b k):=by
   show _=_;rw[wC _ (by omega),hasB,t,Bool.true_and,Int.toNat_natCast,Nat.testBit,Nat.one_and_eq_mod_two];have:(b >>> k) % 2=0\/(b >>> k) % 2=1:=by omega
   rcases this with h|h <;> rw[h] <;> rfl
  clear hn hle;generalize b >>> k=q at *;go_enter func129,ntmps129;go_wp2_with fail;go_ret;refine⟨?_,by go_grown⟩;rw[<- he.out];simp
 ·have t:decide (0<=n)=false:=by simp;omega
  have e:hasB b n=false:=by unfold hasB;rw[t,Bool.false_and]
  rw[e];go_enter func129,ntmps129;go_wp2_with fail;go_ret;exact⟨rfl,by go_grown⟩
theorem wD(a b c d:Nat)(p q r s:Int)(w:World)(x0 x1 x2 x3:Bool)
  (hA:Hid (∀w,CB 104 #[.int .u16 (a:Int)] w (st a 16)))
  (hB:Hid (∀w,CB 104 #[.int .u16 (b:Int)] w (st b 16)))
  (hC:Hid (∀w,CB 102 #[.int .u8 (c:Int)] w (st c 8)))
  (hD:Hid (∀w,CB 102 #[.int .u8 (d:Int)] w (st d 8)))
  (h0:Hid (∀w,CB 129 #[st a 16,p] w (.bool x0)))
  (h1:Hid (∀w,CB 129 #[st b 16,q] w (.bool x1)))
  (h2:Hid (∀w,CB 129 #[st c 8,r] w (.bool x2)))
  (h3:Hid (∀w,CB 129 #[st d 8,s] w (.bool x3))) :
  CB 207 #[mt a b c d,pk p q r s] w (.bool (x0&&x1&&x2&&x3)):=by
 have F1:=(oe (jf w (.int .u16 (a:Int)) (.int .u16 (b:Int)) (.int .u8 (c:Int)) (.int .u8 (d:Int)) 30) (.cells #[p,q,r,s] 37)).drew;have F2:=(jf (w.alloc (.cells #[.int .u16 (a:Int),.int .u16 (b:Int),.int .u8 (c:Int),.int .u8 (d:Int)] 30)) (.int .i64 p) (.int .i64 q) (.int .i64 r) (.int .i64 s) 37).drew;have D1:=(Below.alloc' (Below.alloc' (Below.refl w w) (.cells #[.int .u16 (a:Int),.int .u16 (b:Int),.int .u8 (c:Int),.int .u8 (d:Int)] 30)) (.cells #[p,q,r,s] 37)).drew;rw[show(w.alloc (.cells #[.int .u16 (a:Int),.int .u16 (b:Int),.int .u8 (c:Int),.int .u8 (d:Int)] 30)).heap.size=w.heap.size+1 by simp]at F2;cases x0
 ·go_enter func207,ntmps207;go_wp2_with fail;refine wp_region_held_drew (S:=(λw'=>w'.cell? ⟨w,0,none⟩=some (.int .u16 (a:Int)) /\ w'.cell? ⟨w,1,none⟩=some (.int .u16 (b:Int)) /\ w'.cell? ⟨w,2,none⟩=some (.int .u8 (c:Int)) /\ w'.cell? ⟨w,3,none⟩=some (.int .u8 (d:Int)) /\ w'.cell? ⟨w.heap.size+1,0,none⟩=some (.int .i64 p) /\ w'.cell? ⟨w.heap.size+1,1,none⟩=some (.int .i64 q) /\ w'.cell? ⟨w.heap.size+1,2,none⟩=some (.int .i64 r) /\ w'.cell? ⟨w.heap.size+1,3,none⟩=some (.int .i64 s))) (by kernel_rfl) (bj ‹_› ‹_›) (λhHeld=>?_);refine tk 0 ?_;try simp only[ly]
  refine tk 1 ?_;try simp only[ly]
  refine tk 3 ?_;try simp only[ly]
  refine tk 4 ?_;try simp only[ly]
  refine rd 2 (λK hK=>?_);go_simp;refine(hA.out _).mono ?_;rintro e wz⟨rfl,hbz⟩;have Dz:=ag hbz ‹_›;have Pz:=aC (n:=w.heap.size) hbz ‹_›;have Qz:=aC (n:=w.heap.size+1) hbz ‹_›;clear hbz;try go_wp2_with fail
  clear hHeld;refine hK.out _ _ (bj ‹_› ‹_›) (λhHeld=>?_);clear hK K;try simp only[ly]
  refine rd 5 (λK hK=>?_);go_simp;refine(h0.out _).mono ?_;rintro e wz⟨rfl,hbz⟩;have Dz:=ag hbz ‹_›;have Pz:=aC (n:=w.heap.size) hbz ‹_›;have Qz:=aC (n:=w.heap.size+1) hbz ‹_›;clear hbz;try go_wp2_with fail
  clear hHeld;refine hK.out _ _ (bj ‹_› ‹_›) (λhHeld=>?_);clear hK K;try simp only[ly]
  refine tk 6 ?_;try simp only[ly]
  refine tk0 7 ?_;try simp only[ly]
  refine tk0 8 ?_;try simp only[ly]
  refine tk0 9 ?_;try simp only[ly]
  refine tk0 10 ?_;try simp only[ly]
  refine tk0 11 ?_;try simp only[ly]
  refine tk0 12 ?_;try simp only[ly]
  refine tk 13 ?_;try simp only[ly]
  refine tk 14 ?_;try simp only[ly]
  refine tk0 15 ?_;try simp only[ly]
  refine tk0 16 ?_;try simp only[ly]
  refine tk0 17 ?_;try simp only[ly]
  refine tk0 18 ?_;try simp only[ly]
  refine tk0 19 ?_;try simp only[ly]
  refine tk0 20 ?_;try simp only[ly]
  refine tk 21 ?_;try simp only[ly]
  refine tk 22 ?_;try simp only[ly]
  refine tk0 23 ?_;try simp only[ly]
  refine tk0 24 ?_;try simp only[ly]
  refine tk0 25 ?_;try simp only[ly]
  refine tk0 26 ?_;try simp only[ly]
  refine tk0 27 ?_;try simp only[ly]
  refine tk0 28 ?_;try simp only[ly]
  refine tk 29 ?_;try simp only[ly]
  refine tk 30 ?_;try simp only[ly]
  refine wpAnyH_done (by kernel_rfl) ?_ _
  go_wp2
  go_ret;exact⟨by simp,by assumption⟩
 ·cases x1
  ·go_enter func207,ntmps207;go_wp2_with fail;refine wp_region_held_drew (S:=(λw'=>w'.cell? ⟨w,0,none⟩=some (.int .u16 (a:Int)) /\ w'.cell? ⟨w,1,none⟩=some (.int .u16 (b:Int)) /\ w'.cell? ⟨w,2,none⟩=some (.int .u8 (c:Int)) /\ w'.cell? ⟨w,3,none⟩=some (.int .u8 (d:Int)) /\ w'.cell? ⟨w.heap.size+1,0,none⟩=some (.int .i64 p) /\ w'.cell? ⟨w.heap.size+1,1,none⟩=some (.int .i64 q) /\ w'.cell? ⟨w.heap.size+1,2,none⟩=some (.int .i64 r) /\ w'.cell? ⟨w.heap.size+1,3,none⟩=some (.int .i64 s))) (by kernel_rfl) (bj ‹_› ‹_›) (λhHeld=>?_);refine tk 0 ?_;try simp only[ly]
   refine tk 1 ?_;try simp only[ly]
   refine tk 3 ?_;try simp only[ly]
   refine tk 4 ?_;try simp only[ly]
   refine rd 2 (λK hK=>?_);go_simp;refine(hA.out _).mono ?_;rintro e wz⟨rfl,hbz⟩;have Dz:=ag hbz ‹_›;have Pz:=aC (n:=w.heap.size) hbz ‹_›;have Qz:=aC (n:=w.heap.size+1) hbz ‹_›;clear hbz;try go_wp2_with fail
   clear hHeld;refine hK.out _ _ (bj ‹_› ‹_›) (λhHeld=>?_);clear hK K;try simp only[ly]
   refine rd 5 (λK hK=>?_);go_simp;refine(h0.out _).mono ?_;rintro e wz⟨rfl,hbz⟩;have Dz:=ag hbz ‹_›;have Pz:=aC (n:=w.heap.size) hbz ‹_›;have Qz:=aC (n:=w.heap.size+1) hbz ‹_›;clear hbz;try go_wp2_with fail
   clear hHeld;refine hK.out _ _ (bj ‹_› ‹_›) (λhHeld=>?_);clear hK K;try simp only[ly]
   refine tk 6 ?_;try simp only[ly]
   refine tk 7 ?_;try simp only[ly]
   refine tk 8 ?_;try simp only[ly]
   refine tk 10 ?_;try simp only[ly]
   refine tk 11 ?_;try simp only[ly]
   refine rd 9 (λK hK=>?_);go_simp;refine(hB.out _).mono ?_;rintro e wz⟨rfl,hbz⟩;have Dz:=ag hbz ‹_›;have Pz:=aC (n:=w.heap.size) hbz ‹_›;have Qz:=aC (n:=w.heap.size+1) hbz ‹_›;clear hbz;try go_wp2_with fail
   clear hHeld;refine hK.out _ _ (bj ‹_› ‹_›) (λhHeld=>?_);clear hK K;try simp only[ly]
   refine rd 12 (λK hK=>?_);go_simp;refine(h1.out _).mono ?_;rintro e wz⟨rfl,hbz⟩;have Dz:=ag hbz ‹_›;have Pz:=aC (n:=w.heap.size) hbz ‹_›;have Qz:=aC (n:=w.heap.size+1) hbz ‹_›;clear hbz;try go_wp2_with fail
   clear hHeld;refine hK.out _ _ (bj ‹_› ‹_›) (λhHeld=>?_);clear hK K;try simp only[ly]
   refine tk 13 ?_;try simp only[ly]
   refine tk 14 ?_;try simp only[ly]
   refine tk0 15 ?_;try simp only[ly]
   refine tk0 16 ?_;try simp only[ly]
   refine tk0 17 ?_;try simp only[ly]
   refine tk0 18 ?_;try simp only[ly]
   refine tk0 19 ?_;try simp only[ly]
   refine tk0 20 ?_;try simp only[ly]
   refine tk 21 ?_;try simp only[ly]
   refine tk 22 ?_;try simp only[ly]
   refine tk0 23 ?_;try simp only[ly]
   refine tk0 24 ?_;try simp only[ly]
   refine tk0 25 ?_;try simp only[ly]
   refine tk0 26 ?_;try simp only[ly]
   refine tk0 27 ?_;try simp only[ly]
   refine tk0 28 ?_;try simp only[ly]
   refine tk 29 ?_;try simp only[ly]
   refine tk 30 ?_;try simp only[ly]
   refine wpAnyH_done (by kernel_rfl) ?_ _
   go_wp2
   go_ret;exact⟨by simp,by assumption⟩
  ·cases x2
   ·go_enter func207,ntmps207;go_wp2_with fail;refine wp_region_held_drew (S:=(λw'=>w'.cell? ⟨w,0,none⟩=some (.int .u16 (a:Int)) /\ w'.cell? ⟨w,1,none⟩=some (.int .u16 (b:Int)) /\ w'.cell? ⟨w,2,none⟩=some (.int .u8 (c:Int)) /\ w'.cell? ⟨w,3,none⟩=some (.int .u8 (d:Int)) /\ w'.cell? ⟨w.heap.size+1,0,none⟩=some (.int .i64 p) /\ w'.cell? ⟨w.heap.size+1,1,none⟩=some (.int .i64 q) /\ w'.cell? ⟨w.heap.size+1,2,none⟩=some (.int .i64 r) /\ w'.cell? ⟨w.heap.size+1,3,none⟩=some (.int .i64 s))) (by kernel_rfl) (bj ‹_› ‹_›) (λhHeld=>?_);refine tk 0 ?_;try simp only[ly]
    refine tk 1 ?_;try simp only[ly]
    refine tk 3 ?_;try simp only[ly]
    refine tk 4 ?_;try simp only[ly]
    refine rd 2 (λK hK=>?_);go_simp;refine(hA.out _).mono ?_;rintro e wz⟨rfl,hbz⟩;have Dz:=ag hbz ‹_›;have Pz:=aC (n:=w.heap.size) hbz ‹_›;have Qz:=aC (n:=w.heap.size+1) hbz ‹_›;clear hbz;try go_wp2_with fail
    clear hHeld;refine hK.out _ _ (bj ‹_› ‹_›) (λhHeld=>?_);clear hK K;try simp only[ly]
    refine rd 5 (λK hK=>?_);go_simp;refine(h0.out _).mono ?_;rintro e wz⟨rfl,hbz⟩;have Dz:=ag hbz ‹_›;have Pz:=aC (n:=w.heap.size) hbz ‹_›;have Qz:=aC (n:=w.heap.size+1) hbz ‹_›;clear hbz;try go_wp2_with fail
    clear hHeld;refine hK.out _ _ (bj ‹_› ‹_›) (λhHeld=>?_);clear hK K;try simp only[ly]
    refine tk 6 ?_;try simp only[ly]
    refine tk 7 ?_;try simp only[ly]
    refine tk 8 ?_;try simp only[ly]
    refine tk 10 ?_;try simp only[ly]
    refine tk 11 ?_;try simp only[ly]
    refine rd 9 (λK hK=>?_);go_simp;refine(hB.out _).mono ?_;rintro e wz⟨rfl,hbz⟩;have Dz:=ag hbz ‹_›;have Pz:=aC (n:=w.heap.size) hbz ‹_›;have Qz:=aC (n:=w.heap.size+1) hbz ‹_›;clear hbz;try go_wp2_with fail
    clear hHeld;refine hK.out _ _ (bj ‹_› ‹_›) (λhHeld=>?_);clear hK K;try simp only[ly]
    refine rd 12 (λK hK=>?_);go_simp;refine(h1.out _).mono ?_;rintro e wz⟨rfl,hbz⟩;have Dz:=ag hbz ‹_›;have Pz:=aC (n:=w.heap.size) hbz ‹_›;have Qz:=aC (n:=w.heap.size+1) hbz ‹_›;clear hbz;try go_wp2_with fail
    clear hHeld;refine hK.out _ _ (bj ‹_› ‹_›) (λhHeld=>?_);clear hK K;try simp only[ly]
    refine tk 13 ?_;try simp only[ly]
    refine tk 14 ?_;try simp only[ly]
    refine tk 15 ?_;try simp only[ly]
    refine tk 16 ?_;try simp only[ly]
    refine tk 18 ?_;try simp only[ly]
    refine tk 19 ?_;try simp only[ly]
    refine rd 17 (λK hK=>?_);go_simp;refine(hC.out _).mono ?_;rintro e wz⟨rfl,hbz⟩;have Dz:=ag hbz ‹_›;have Pz:=aC (n:=w.heap.size) hbz ‹_›;have Qz:=aC (n:=w.heap.size+1) hbz ‹_›;clear hbz;try go_wp2_with fail
    clear hHeld;refine hK.out _ _ (bj ‹_› ‹_›) (λhHeld=>?_);clear hK K;try simp only[ly]
    refine rd 20 (λK hK=>?_);go_simp;refine(h2.out _).mono ?_;rintro e wz⟨rfl,hbz⟩;have Dz:=ag hbz ‹_›;have Pz:=aC (n:=w.heap.size) hbz ‹_›;have Qz:=aC (n:=w.heap.size+1) hbz ‹_›;clear hbz;try go_wp2_with fail
    clear hHeld;refine hK.out _ _ (bj ‹_› ‹_›) (λhHeld=>?_);clear hK K;try simp only[ly]
    refine tk 21 ?_;try simp only[ly]
    refine tk 22 ?_;try simp only[ly]
    refine tk0 23 ?_;try simp only[ly]
    refine tk0 24 ?_;try simp only[ly]
    refine tk0 25 ?_;try simp only[ly]
    refine tk0 26 ?_;try simp only[ly]
    refine tk0 27 ?_;try simp only[ly]
    refine tk0 28 ?_;try simp only[ly]
    refine tk 29 ?_;try simp only[ly]
    refine tk 30 ?_;try simp only[ly]
    refine wpAnyH_done (by kernel_rfl) ?_ _
    go_wp2
    go_ret;exact⟨by simp,by assumption⟩
   ·go_enter func207,ntmps207;go_wp2_with fail;refine wp_region_held_drew (S:=(λw'=>w'.cell? ⟨w,0,none⟩=some (.int .u16 (a:Int)) /\ w'.cell? ⟨w,1,none⟩=some (.int .u16 (b:Int)) /\ w'.cell? ⟨w,2,none⟩=some (.int .u8 (c:Int)) /\ w'.cell? ⟨w,3,none⟩=some (.int .u8 (d:Int)) /\ w'.cell? ⟨w.heap.size+1,0,none⟩=some (.int .i64 p) /\ w'.cell? ⟨w.heap.size+1,1,none⟩=some (.int .i64 q) /\ w'.cell? ⟨w.heap.size+1,2,none⟩=some (.int .i64 r) /\ w'.cell? ⟨w.heap.size+1,3,none⟩=some (.int .i64 s))) (by kernel_rfl) (bj ‹_› ‹_›) (λhHeld=>?_);refine tk 0 ?_;try simp only[ly]
    refine tk 1 ?_;try simp only[ly]
    refine tk 3 ?_;try simp only[ly]
    refine tk 4 ?_;try simp only[ly]
    refine rd 2 (λK hK=>?_);go_simp;refine(hA.out _).mono ?_;rintro e wz⟨rfl,hbz⟩;have Dz:=ag hbz ‹_›;have Pz:=aC (n:=w.heap.size) hbz ‹_›;have Qz:=aC (n:=w.heap.size+1) hbz ‹_›;clear hbz;try go_wp2_with fail
    clear hHeld;refine hK.out _ _ (bj ‹_› ‹_›) (λhHeld=>?_);clear hK K;try simp only[ly]
    refine rd 5 (λK hK=>?_);go_simp;refine(h0.out _).mono ?_;rintro e wz⟨rfl,hbz⟩;have Dz:=ag hbz ‹_›;have Pz:=aC (n:=w.heap.size) hbz ‹_›;have Qz:=aC (n:=w.heap.size+1) hbz ‹_›;clear hbz;try go_wp2_with fail
    clear hHeld;refine hK.out _ _ (bj ‹_› ‹_›) (λhHeld=>?_);clear hK K;try simp only[ly]
    refine tk 6 ?_;try simp only[ly]
    refine tk 7 ?_;try simp only[ly]
    refine tk 8 ?_;try simp only[ly]
    refine tk 10 ?_;try simp only[ly]
    refine tk 11 ?_;try simp only[ly]
    refine rd 9 (λK hK=>?_);go_simp;refine(hB.out _).mono ?_;rintro e wz⟨rfl,hbz⟩;have Dz:=ag hbz ‹_›;have Pz:=aC (n:=w.heap.size) hbz ‹_›;have Qz:=aC (n:=w.heap.size+1) hbz ‹_›;clear hbz;try go_wp2_with fail
    clear hHeld;refine hK.out _ _ (bj ‹_› ‹_›) (λhHeld=>?_);clear hK K;try simp only[ly]
    refine rd 12 (λK hK=>?_);go_simp;refine(h1.out _).mono ?_;rintro e wz⟨rfl,hbz⟩;have Dz:=ag hbz ‹_›;have Pz:=aC (n:=w.heap.size) hbz ‹_›;have Qz:=aC (n:=w.heap.size+1) hbz ‹_›;clear hbz;try go_wp2_with fail
    clear hHeld;refine hK.out _ _ (bj ‹_› ‹_›) (λhHeld=>?_);clear hK K;try simp only[ly]
    refine tk 13 ?_;try simp only[ly]
    refine tk 14 ?_;try simp only[ly]
    refine tk 15 ?_;try simp only[ly]
    refine tk 16 ?_;try simp only[ly]
    refine tk 18 ?_;try simp only[ly]
    refine tk 19 ?_;try simp only[ly]
    refine rd 17 (λK hK=>?_);go_simp;refine(hC.out _).mono ?_;rintro e wz⟨rfl,hbz⟩;have Dz:=ag hbz ‹_›;have Pz:=aC (n:=w.heap.size) hbz ‹_›;have Qz:=aC (n:=w.heap.size+1) hbz ‹_›;clear hbz;try go_wp2_with fail
    clear hHeld;refine hK.out _ _ (bj ‹_› ‹_›) (λhHeld=>?_);clear hK K;try simp only[ly]
    refine rd 20 (λK hK=>?_);go_simp;refine(h2.out _).mono ?_;rintro e wz⟨rfl,hbz⟩;have Dz:=ag hbz ‹_›;have Pz:=aC (n:=w.heap.size) hbz ‹_›;have Qz:=aC (n:=w.heap.size+1) hbz ‹_›;clear hbz;try go_wp2_with fail
    clear hHeld;refine hK.out _ _ (bj ‹_› ‹_›) (λhHeld=>?_);clear hK K;try simp only[ly]
    refine tk 21 ?_;try simp only[ly]
    refine tk 22 ?_;try simp only[ly]
    refine tk 23 ?_;try simp only[ly]
    refine tk 24 ?_;try simp only[ly]
    refine tk 26 ?_;try simp only[ly]
    refine tk 27 ?_;try simp only[ly]
    refine rd 25 (λK hK=>?_);go_simp;refine(hD.out _).mono ?_;rintro e wz⟨rfl,hbz⟩;have Dz:=ag hbz ‹_›;have Pz:=aC (n:=w.heap.size) hbz ‹_›;have Qz:=aC (n:=w.heap.size+1) hbz ‹_›;clear hbz;try go_wp2_with fail
    clear hHeld;refine hK.out _ _ (bj ‹_› ‹_›) (λhHeld=>?_);clear hK K;try simp only[ly]
    refine rd 28 (λK hK=>?_);go_simp;refine(h3.out _).mono ?_;rintro e wz⟨rfl,hbz⟩;have Dz:=ag hbz ‹_›;have Pz:=aC (n:=w.heap.size) hbz ‹_›;have Qz:=aC (n:=w.heap.size+1) hbz ‹_›;clear hbz;try go_wp2_with fail
    clear hHeld;refine hK.out _ _ (bj ‹_› ‹_›) (λhHeld=>?_);clear hK K;try simp only[ly]
    refine tk 29 ?_;try simp only[ly]
    refine tk 30 ?_;try simp only[ly]
    refine wpAnyH_done (by kernel_rfl) ?_ _
    go_wp2
    go_ret;exact⟨by simp,by assumption⟩
def inB(a b c d:Nat)(p q r s:Int):Bool:=hasB a p&&hasB b q&&hasB c r&&hasB d s
theorem wE(a b c d:Nat)(p q r s:Int)(w:World)(ha:a<65536)(hb:b<65536)(hc:c<256)(hd:d<256) :
  CB 207 #[mt a b c d,pk p q r s] w (.bool (inB a b c d p q r s)) :=
 wD a b c d p q r s w _ _ _ _ (λw=>jg a w ha) (λw=>jg b w hb) (λw=>jh c w hc) (λw=>jh d w hd)
  (λw=>ic a p 16 w ha) (λw=>ic b q 16 w hb) (λw=>ic c r 8 w (by omega)) (λw=>ic d s 8 w (by omega))
structure Rl where
 ok:Bool
 a:Nat
 b:Nat
 c:Nat
 d:Nat
 ha:a<65536
 hb:b<65536
 hc:c<256
 hd:d<256
def inR(r:Rl)(p q s t:Int):Bool:=inB r.a r.b r.c r.d p q s t
def letsB:List Rl->Int->Int->Int->Int->Bool
 | [],_,_,_,_=>false
 | r::l,p,q,s,t=>if inR r p q s t then r.ok else letsB l p q s t
def allR(ok:Bool):Rl:=⟨ok,65535,65535,255,255,by omega,by omega,by omega,by omega⟩
abbrev og(r:Rl):List Value:=[.bool r.ok,.int .u16 (r.a:Int),.int .u16 (r.b:Int),.int .u8 (r.c:Int),.int .u8 (r.d:Int)]
abbrev rv(r:Rl):Value:=.agg #[.bool r.ok,.int .u16 (r.a:Int),.int .u16 (r.b:Int),.int .u8 (r.c:Int),.int .u8 (r.d:Int)]
def dy(xs:List Rl):List Value:=xs.flatMap λr=>og r
theorem oh(r:Rl)(l:List Rl):dy (r::l)=og r++dy l:=rfl
theorem kF:∀xs:List Rl,(dy xs).length=xs.length*5
 | []=>rfl
 | r::l=>by
   have:=kF l;rw[oh,List.length_append,this];simp;omega
theorem ji:∀(xs:List Rl) (k:Nat) (r:Rl),xs[k]?=some r ->
  (dy xs)[k*5]?=some (.bool r.ok) /\ (dy xs)[k*5+1]?=some (.int .u16 (r.a:Int)) /\ (dy xs)[k*5+2]?=some (.int .u16 (r.b:Int)) /\ (dy xs)[k*5+3]?=some (.int .u8 (r.c:Int)) /\ (dy xs)[k*5+4]?=some (.int .u8 (r.d:Int))
 | [],k,r,h=>by simp at h
 | x::l,0,r,h=>by
   obtain rfl:x=r:=by simpa using h
   exact⟨rfl,rfl,rfl,rfl,rfl⟩
 | x::l,k+1,r,h=>by
   have ih:=ji l k r (by simpa using h);have sh:∀j,(dy (x::l))[(k+1)*5+j]?=(dy l)[k*5+j]?:=λj=>by
    rw[oh,List.getElem?_append_right (by simp;omega)]
    congr 1
    simp;omega
   have s0:=sh 0;simp only[Nat.add_zero]at s0;rw[s0,sh 1,sh 2,sh 3,sh 4];exact ih
def RAt(w:World)(b o:Nat)(xs:List Rl):Prop:=∀j u,(dy xs)[j]?=some u->w.cell? ⟨b,o+j,none⟩=some u
def Rules(a9:Nat)(w:World)(v:Value)(xs:List Rl):Prop :=
 ∃A cap,v=.slice A xs.length cap /\ (A=none->cap=0) /\ xs.length<=cap /\ cap<=maxLen /\ (xs≠[]->∃b o,A=some ⟨b,o,none⟩ /\ b<a9 /\ RAt w b o xs)
theorem RAt.at{w:World}{b o:Nat}{xs:List Rl}(h:RAt w b o xs){k:Nat}{r:Rl}(hk:xs[k]?=some r) :
  w.cell? ⟨b,o+k*5,none⟩=some (.bool r.ok) /\ w.cell? ⟨b,o+k*5+1,none⟩=some (.int .u16 (r.a:Int)) /\ w.cell? ⟨b,o+k*5+2,none⟩=some (.int .u16 (r.b:Int)) /\ w.cell? ⟨b,o+k*5+3,none⟩=some (.int .u8 (r.c:Int)) /\ w.cell? ⟨b,o+k*5+4,none⟩=some (.int .u8 (r.d:Int)):=by
 obtain⟨h0,h1,h2,h3,h4⟩:=ji xs k r hk;exact⟨h _ _ h0,h _ _ h1,h _ _ h2,h _ _ h3,h _ _ h4⟩
theorem RAt.below{a9:Nat}{w w':World}{b o:Nat}{xs:List Rl}(h:RAt w b o xs)(hb:Below a9 w w')(hl:b<a9):RAt w' b o xs :=
 λj u hj=>(hb.cell (p:=⟨b,_,none⟩) hl).trans (h j u hj)
theorem Rules.below{a9:Nat}{w w':World}{v:Value}{xs:List Rl}(h:Rules a9 w v xs)(hb:Below a9 w w'):Rules a9 w' v xs:=by
 obtain⟨A,cap,e,h0,h1,h2,h3⟩:=h;refine⟨A,cap,e,h0,h1,h2,λhn=>?_⟩;obtain⟨b,o,ea,hl,hr⟩:=h3 hn;exact⟨b,o,ea,hl,hr.below hb hl⟩
theorem Rules.mono{a9 base':Nat}{w:World}{v:Value}{xs:List Rl}(h:Rules a9 w v xs)(hb:a9<=base'):Rules base' w v xs:=by
 obtain⟨A,cap,e,h0,h1,h2,h3⟩:=h;refine⟨A,cap,e,h0,h1,h2,λhn=>?_⟩;obtain⟨b,o,ea,hl,hr⟩:=h3 hn;exact⟨b,o,ea,by omega,hr⟩
theorem wG{ok:Bool}{p q s t:Int}(hp:0<=p /\ p<16)(hq:0<=q /\ q<16)(hs:0<=s /\ s<8)(ht:0<=t /\ t<8):inR (allR ok) p q s t=true:=by
 have one:∀(n:Int) (m:Nat),0<=n->n<m->hasB (2 ^ m-1) n=true:=by
  intro n m h0 h1;unfold hasB;rw[Nat.testBit_two_pow_sub_one];simp;omega
 unfold inR allR inB;have h1:=one p 16 hp.1 hp.2;have h2:=one q 16 hq.1 hq.2;have h3:=one s 8 hs.1 hs.2;have h4:=one t 8 ht.1 ht.2;simp only[show(2:Nat) ^ 16-1=65535 from rfl,show(2:Nat) ^ 8-1=255 from rfl]at h1 h2 h3 h4;simp[h1,h2,h3,h4]
end Go.Proofs.YtjmclcmgpaofiaaGreat
