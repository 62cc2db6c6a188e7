/-
  XAA.
-/
import Derived.Test.YtppbfikimalojaaGreatProg
import Derived.WalkKit
import Derived.WalkSpells
import Derived.WalkLawsBesides
import Derived.Handy
import Derived.BigQuiet
import Derived.Deep.QuietTactic
import Derived.Deep.RegionHeld3
import Derived.Deep.DeepCutAuto
import Derived.ProofKit
import Derived.OpenShut
import Derived.Deep.Slices
import Derived.Laws.AppendOwn
import Derived.Lib.Bytealg
import Derived.Laws.CopyRow
import Derived.Maps.OwnSet
set_option maxHeartbeats 8000000
set_option maxRecDepth 100000
namespace Go.Proofs.YtppbfikimalojaaGreat
open Tryz
open Go.ChangeShapes Go.WideShapes Go.RowKit Go.Deep
def SlAt{α:Type}(b9:Nat)(w:World)(n:Nat)(R:List Value->α->Prop)(v:Value)(xs:List α):Prop :=
 ∃A cap,v=.slice A xs.length cap/\(A=none->cap=0)/\xs.length<=cap/\cap<=maxLen /\
   (xs≠[]->∃b o,A=some ⟨b,o,none⟩/\b<b9/\∀k x,xs[k]?=some x->∃cs:List Value,cs.length=n/\R cs x/\∀j u,cs[j]?=some u->w.cell? ⟨b,o+k*n+j,none⟩=some u)
section
variable {α:Type}{b9 base' n:Nat}{w w':World}{R R':List Value->α->Prop}{v:Value}{xs:List α}
theorem SlAt.below(h:SlAt b9 w n R v xs)(hb:Below b9 w w')(hR:∀cs x,x∈xs->R cs x->R' cs x):SlAt b9 w' n R' v xs:=by
 obtain⟨A,cap,e,h0,h1,h2,h3⟩:=h;refine⟨A,cap,e,h0,h1,h2,λhn=>?_⟩;obtain⟨b,o,ea,hl,hr⟩:=h3 hn;refine⟨b,o,ea,hl,λk x hx=>?_⟩;obtain⟨cs,c1,c2,c3⟩:=hr k x hx;exact⟨cs,c1,hR cs x (List.mem_of_getElem? hx) c2,λj u hj=>(hb.cell (p:=⟨b,_,none⟩) hl).trans (c3 j u hj)⟩
theorem SlAt.mono(h:SlAt b9 w n R v xs)(hb:b9<=base')(hR:∀cs x,x∈xs->R cs x->R' cs x):SlAt base' w n R' v xs:=by
 obtain⟨A,cap,e,h0,h1,h2,h3⟩:=h;refine⟨A,cap,e,h0,h1,h2,λhn=>?_⟩;obtain⟨b,o,ea,hl,hr⟩:=h3 hn;refine⟨b,o,ea,by omega,λk x hx=>?_⟩;obtain⟨cs,c1,c2,c3⟩:=hr k x hx;exact⟨cs,c1,hR cs x (List.mem_of_getElem? hx) c2,c3⟩
end
theorem kQ{w:World}{a:Addr}{v:Value}(h:w.cell? a=some v):a.spot=none:=by
 unfold World.cell? at h
 split at h
 ·split at h
  ·cases h
  ·rename_i hs
   cases hp:a.spot
   ·rfl
   ·rw[hp]at hs;simp at hs
 ·cases h
section
variable {H:Type}{enc:TypeId × Value->H}{W:World}{sp:Nat->Bool}{held:Bool}
theorem dN{α:Type}[Inhabited α]{S E:TypeId}{n:Nat}{R:List Value->α->Prop}(hu:prog.underlying S=some (.slice E))(hc:prog.cellsOf E=n)(hn:0<n)(hR:∀fuel cs x,cs.length=n->DataW.trod enc prog W 0 sp held fuel E cs=some x->∃y,R cs y)
  {fuel:Nat} {cs:List Value} {x:DataW H × List MemPlace} (h:DataW.trod enc prog W 0 sp held fuel S cs=some x):∃v xs,cs=[v]/\SlAt W.heap.size W n R v xs:=by
 rcases open_slice hu h with⟨h0,h00⟩|⟨a,len,cap,m,nn,D,Pl,h0,_,hl,hm,hmm,hd,hx⟩
 ·exact⟨.slice none 0 0,[],h0,none,0,rfl,λ_=>rfl,Nat.le_refl _,Nat.zero_le _,λhn=>absurd rfl hn⟩
 ·have hlm:len<=m:=by rw[hmm];split <;> omega
  by_cases h00:len=0
  ·subst h00;exact⟨.slice (some a) 0 cap,[],h0,some a,cap,rfl,(λe=>by cases e),hl,hm,λhn=>absurd rfl hn⟩
  ·have each:∀i,i<len->∃y:α,∃cs':List Value,cs'.length=n/\R cs' y/\∀j u,cs'[j]?=some u->W.cell? ((a.add (i*n)).add j)=some u:=by
    intro i hi;obtain⟨cs',h1,h2⟩:=hx i (by omega);rw[hc]at h1;obtain⟨_,hlen,hcell⟩:=World.cells?_some h1;obtain⟨y,hy⟩:=hR _ _ _ hlen h2;refine⟨y,cs',hlen,hy,λj u hj=>?_⟩;have hj5:j<n:=by
     have:=(List.getElem?_eq_some_iff.1 hj).1;omega
    have:=hcell j hj5;rw[hj]at this;exact this
   have hfst:∃u,W.cell? a=some u:=by
    obtain⟨y,cs',hl',_,hc'⟩:=each 0 (by omega);obtain⟨u,hu'⟩:∃u,cs'[0]?=some u:=⟨_,List.getElem?_eq_getElem (by omega)⟩;exact⟨u,by simpa[Addr.add]using hc' 0 u hu'⟩
   obtain⟨u0,hu0⟩:=hfst;have hsp:=kQ hu0;obtain⟨b,o,sp'⟩:=a;simp only[]at hsp;subst hsp;obtain⟨f,hf⟩:=choose_lt each;have hlb:b<W.heap.size:=World.block_lt_of_cell? W _ hu0;have hlen:((List.range len).map f).length=len:=by simp
   refine⟨_,(List.range len).map f,h0,some ⟨b,o,none⟩,cap,by rw[hlen],(λe=>by cases e),by rw[hlen];exact hl,hm,λ_=>⟨b,o,rfl,hlb,λk y hy=>?_⟩⟩;have hk:k<len:=by
    have:=(List.getElem?_eq_some_iff.1 hy).1;rw[hlen]at this;exact this
   obtain rfl:f k=y:=by
    rw[List.getElem?_map,List.getElem?_range hk]at hy;simpa using hy
   obtain⟨cs',c1,c2,c3⟩:=hf k hk;refine⟨cs',c1,c2,λj u hj=>?_⟩;have:=c3 j u hj;rw[Addr.add_lit,Addr.add_lit]at this;exact this
end
structure NRule where
 ok:Bool
 a:Nat
 b:Nat
 c:Nat
 d:Nat
 ha:a<65536
 hb:b<65536
 hc:c<256
 hd:d<256
structure NRoute where
 v:Int
 b:Int
 p:Int
structure Dv where
 name:ByteArray
 kind:Int
 addr:Int
 pool:Nat
 backs:List Int
 rules:List NRule
 routes:List NRoute
 hp:pool<256
 hs:name.size<=maxLen
structure Lk where
 a:Int
 p:Int
 b:Int
 q:Int
instance:Inhabited NRule:=⟨⟨false,0,0,0,0,by omega,by omega,by omega,by omega⟩⟩
instance:Inhabited NRoute:=⟨⟨0,0,0⟩⟩
instance:Inhabited Lk:=⟨⟨0,0,0,0⟩⟩
instance:Inhabited Dv:=⟨⟨⟨#[]⟩,0,0,0,[],[],[],by omega,Nat.zero_le _⟩⟩
def IsI(cs:List Value)(x:Int):Prop:=cs=[.int .i64 x]
def A9(cs:List Value)(r:NRule):Prop:=cs=[.bool r.ok,.int .u16 (r.a:Int),.int .u16 (r.b:Int),.int .u8 (r.c:Int),.int .u8 (r.d:Int)]
def C7(cs:List Value)(r:NRoute):Prop:=cs=[.int .i64 r.v,.int .i64 r.b,.int .i64 r.p]
def S7(cs:List Value)(l:Lk):Prop:=cs=[.int .i64 l.a,.int .i64 l.p,.int .i64 l.b,.int .i64 l.q]
def IsDv(b9:Nat)(w:World)(cs:List Value)(d:Dv):Prop :=
 ∃vb vr vt,cs=[.string d.name,.int .i64 d.kind,.int .i64 d.addr,.int .u8 (d.pool:Int),vb,vr,vt]/\SlAt b9 w 1 IsI vb d.backs/\SlAt b9 w 5 A9 vr d.rules/\SlAt b9 w 3 C7 vt d.routes
theorem IsDv.below{b9:Nat}{w w':World}{cs:List Value}{d:Dv}(h:IsDv b9 w cs d)(hb:Below b9 w w'):IsDv b9 w' cs d:=by
 obtain⟨vb,vr,vt,e,h1,h2,h3⟩:=h;exact⟨vb,vr,vt,e,h1.below hb (λ_ _ _ h=>h),h2.below hb (λ_ _ _ h=>h),h3.below hb (λ_ _ _ h=>h)⟩
theorem IsDv.mono{b9 base':Nat}{w:World}{cs:List Value}{d:Dv}(h:IsDv b9 w cs d)(hb:b9<=base'):IsDv base' w cs d:=by
 obtain⟨vb,vr,vt,e,h1,h2,h3⟩:=h;exact⟨vb,vr,vt,e,h1.mono hb (λ_ _ _ h=>h),h2.mono hb (λ_ _ _ h=>h),h3.mono hb (λ_ _ _ h=>h)⟩
def Devs(b9:Nat)(w:World)(v:Value)(ds:List Dv):Prop:=SlAt b9 w 7 (IsDv b9 w) v ds
def Links(b9:Nat)(w:World)(v:Value)(ls:List Lk):Prop:=SlAt b9 w 4 S7 v ls
theorem Devs.below{b9:Nat}{w w':World}{v:Value}{ds:List Dv}(h:Devs b9 w v ds)(hb:Below b9 w w'):Devs b9 w' v ds:=SlAt.below h hb (λ_ _ _ h=>h.below hb)
theorem Devs.mono{b9 base':Nat}{w:World}{v:Value}{ds:List Dv}(h:Devs b9 w v ds)(hb:b9<=base'):Devs base' w v ds:=SlAt.mono h hb (λ_ _ _ h=>h.mono hb)
theorem Links.below{b9:Nat}{w w':World}{v:Value}{ls:List Lk}(h:Links b9 w v ls)(hb:Below b9 w w'):Links b9 w' v ls:=SlAt.below h hb (λ_ _ _ h=>h)
theorem Links.mono{b9 base':Nat}{w:World}{v:Value}{ls:List Lk}(h:Links b9 w v ls)(hb:b9<=base'):Links base' w v ls:=SlAt.mono h hb (λ_ _ _ h=>h)
theorem dO:prog.cellsOf 3=1:=by kernel_rfl
theorem nBool:prog.cellsOf 4=1:=by kernel_rfl
theorem nU8:prog.cellsOf 5=1:=by kernel_rfl
theorem nU16:prog.cellsOf 30=1:=by kernel_rfl
theorem nStr:prog.cellsOf 9=1:=by kernel_rfl
theorem tK:prog.cellsOf 32=4:=by kernel_rfl
theorem nRule:prog.cellsOf 212=5:=by kernel_rfl
theorem tL:prog.cellsOf 210=3:=by kernel_rfl
theorem nLink:prog.cellsOf 96=4:=by kernel_rfl
theorem tM:prog.cellsOf 56=7:=by kernel_rfl
theorem nInts:prog.cellsOf 50=1:=by kernel_rfl
theorem tN:prog.cellsOf 53=1:=by kernel_rfl
theorem tO:prog.cellsOf 54=1:=by kernel_rfl
theorem tP:prog.cellsOf 22=1:=by kernel_rfl
theorem tQ:prog.cellsOf 23=1:=by kernel_rfl
theorem nNet:prog.cellsOf 25=2:=by kernel_rfl
theorem dP{x:Int}{n:Nat}(h0:0<=x)(h1:x<=(n:Int)):∃k:Nat,x=(k:Int)/\k<n+1:=⟨x.toNat,by omega,by omega⟩
section
variable {H:Type}{enc:TypeId × Value->H}{W:World}{sp:Nat->Bool}{held:Bool}{fuel:Nat}{cs:List Value}{x:DataW H × List MemPlace}
theorem tR(h:DataW.trod enc prog W 0 sp held fuel 3 cs=some x):∃y:Int,IsI cs y:=by
 obtain⟨y,e,_⟩:=DataW.trod_int underlying3 h;exact⟨y,e⟩
theorem tS(hl:cs.length=4)(h:DataW.trod enc prog W 0 sp held fuel 96 cs=some x):∃l:Lk,S7 cs l:=by
 obtain⟨xs,k,hk,hxy,_,hxl,hf⟩:=DataW.trod_struct underlying96 h
 match xs,hxl,cs,hl with
 | [y0,y1,y2,y3],_,[v0,v1,v2,v3],_ =>
   have g0:=hf 0 _ rfl;have g1:=hf 1 _ rfl;have g2:=hf 2 _ rfl;have g3:=hf 3 _ rfl;simp[dO]at g0 g1 g2 g3;obtain⟨x0,e0,_⟩:=DataW.trod_int underlying3 g0;obtain⟨x1,e1,_⟩:=DataW.trod_int underlying3 g1;obtain⟨x2,e2,_⟩:=DataW.trod_int underlying3 g2;obtain⟨x3,e3,_⟩:=DataW.trod_int underlying3 g3;simp only[List.cons.injEq,and_true]at e0 e1 e2 e3;subst e0 e1 e2 e3;exact⟨⟨x0,x1,x2,x3⟩,rfl⟩
theorem tT(hl:cs.length=3)(h:DataW.trod enc prog W 0 sp held fuel 210 cs=some x):∃r:NRoute,C7 cs r:=by
 obtain⟨xs,k,hk,hxy,_,hxl,hf⟩:=DataW.trod_struct underlying210 h
 match xs,hxl,cs,hl with
 | [y0,y1,y2],_,[v0,v1,v2],_ =>
   have g0:=hf 0 _ rfl;have g1:=hf 1 _ rfl;have g2:=hf 2 _ rfl;simp[dO]at g0 g1 g2;obtain⟨x0,e0,_⟩:=DataW.trod_int underlying3 g0;obtain⟨x1,e1,_⟩:=DataW.trod_int underlying3 g1;obtain⟨x2,e2,_⟩:=DataW.trod_int underlying3 g2;simp only[List.cons.injEq,and_true]at e0 e1 e2;subst e0 e1 e2;exact⟨⟨x0,x1,x2⟩,rfl⟩
theorem tU(hl:cs.length=5)(h:DataW.trod enc prog W 0 sp held fuel 212 cs=some x):∃r:NRule,A9 cs r:=by
 obtain⟨xs,k,hk,hxy,_,hxl,hf⟩:=DataW.trod_struct underlying212 h
 match xs,hxl,cs,hl with
 | [y0,y1],_,[v0,v1,v2,v3,v4],_ =>
   have g0:=hf 0 _ rfl;have g1:=hf 1 _ rfl;simp[nBool,tK]at g0 g1;obtain⟨ok,q0,_⟩:=DataW.trod_bool underlying4 g0;obtain⟨xs,k,hk,hxy,_,hxl,hf⟩:=DataW.trod_struct underlying32 g1
   match xs,hxl with
   | [z0,z1,z2,z3],_ =>
     have g0:=hf 0 _ rfl;have g1:=hf 1 _ rfl;have g2:=hf 2 _ rfl;have g3:=hf 3 _ rfl;simp[nU16,nU8]at g0 g1 g2 g3;obtain⟨x0,e0,_,w0⟩:=DataW.trod_int underlying30 g0;obtain⟨x1,e1,_,w1⟩:=DataW.trod_int underlying30 g1;obtain⟨x2,e2,_,w2⟩:=DataW.trod_int underlying5 g2;obtain⟨x3,e3,_,w3⟩:=DataW.trod_int underlying5 g3;simp only[List.cons.injEq,and_true]at q0 e0 e1 e2 e3;subst q0 e0 e1 e2 e3;obtain⟨na,rfl,la⟩:=dP (n:=65535) (bounds_u16 w0).1 (bounds_u16 w0).2;obtain⟨nb,rfl,lb⟩:=dP (n:=65535) (bounds_u16 w1).1 (bounds_u16 w1).2;obtain⟨nc,rfl,lc⟩:=dP (n:=255) (bounds_u8 w2).1 (bounds_u8 w2).2;obtain⟨nd',rfl,ld⟩:=dP (n:=255) (bounds_u8 w3).1 (bounds_u8 w3).2;exact⟨⟨ok,na,nb,nc,nd',by omega,by omega,by omega,by omega⟩,rfl⟩
theorem tV(hl:cs.length=7)(h:DataW.trod enc prog W 0 sp held fuel 56 cs=some x):∃d:Dv,IsDv W.heap.size W cs d:=by
 obtain⟨xs,k,hk,hxy,_,hxl,hf⟩:=DataW.trod_struct underlying56 h
 match xs,hxl,cs,hl with
 | [y0,y1,y2,y3,y4,y5,y6],_,[v0,v1,v2,v3,v4,v5,v6],_ =>
   have g0:=hf 0 _ rfl;have g1:=hf 1 _ rfl;have g2:=hf 2 _ rfl;have g3:=hf 3 _ rfl;have g4:=hf 4 _ rfl;have g5:=hf 5 _ rfl;have g6:=hf 6 _ rfl;simp[dO,nStr,nU8,nInts,tN,tO]at g0 g1 g2 g3 g4 g5 g6;obtain⟨s,e0,_,ls⟩:=DataW.trod_string underlying9 g0;obtain⟨x1,e1,_⟩:=DataW.trod_int underlying3 g1;obtain⟨x2,e2,_⟩:=DataW.trod_int underlying3 g2;obtain⟨x3,e3,_,w3⟩:=DataW.trod_int underlying5 g3;obtain⟨u4,b4,e4,s4⟩:=dN (n:=1) (R:=IsI) underlying50 dO (by omega) (λ_ _ _ _ h=>tR h) g4;obtain⟨u5,b5,e5,s5⟩:=dN (n:=5) (R:=A9) underlying53 nRule (by omega) (λ_ _ _ hl h=>tU hl h) g5;obtain⟨u6,b6,e6,s6⟩:=dN (n:=3) (R:=C7) underlying54 tL (by omega) (λ_ _ _ hl h=>tT hl h) g6;simp only[List.cons.injEq,and_true]at e0 e1 e2 e3 e4 e5 e6;subst e0 e1 e2 e3 e4 e5 e6;obtain⟨nc,rfl,lc⟩:=dP (n:=255) (bounds_u8 w3).1 (bounds_u8 w3).2;exact⟨⟨s,x1,x2,nc,b4,b5,b6,by omega,ls⟩,_,_,_,rfl,s4,s5,s6⟩
theorem kR{r:Reach}{b0:Nat}{v:Value}{d:DataW H}{p:List MemPlace}(hv:Value.okWide prog W r b0 25 v)(h:DataW.Trod enc prog W 0 sp held 25 v d p) :
  ∃vd vl ds ls,v=.agg #[vd,vl]/\Devs W.heap.size W vd ds/\Links W.heap.size W vl ls:=by
 obtain⟨cs,rfl,hsz⟩:=okWide_struct underlying25 hv;obtain⟨fuel,h⟩:=h;rw[nNet]at hsz;obtain⟨l⟩:=cs;simp only[Value.cells]at h;obtain⟨xs,k,hk,hxy,_,hxl,hf⟩:=DataW.trod_struct underlying25 h
 match xs,hxl,l,hsz with
 | [y0,y1],_,[v0,v1],_ =>
   have g0:=hf 0 _ rfl;have g1:=hf 1 _ rfl;simp[tP,tQ]at g0 g1;obtain⟨u0,ds,e0,s0⟩:=dN (n:=7) (R:=IsDv W.heap.size W) underlying22 tM (by omega) (λ_ _ _ hl h=>tV hl h) g0;obtain⟨u1,ls,e1,s1⟩:=dN (n:=4) (R:=S7) underlying23 nLink (by omega) (λ_ _ _ hl h=>tS hl h) g1;simp only[List.cons.injEq,and_true]at e0 e1;subst e0 e1;exact⟨_,_,ds,ls,rfl,s0,s1⟩
end
end Go.Proofs.YtppbfikimalojaaGreat
namespace Go.Proofs.YtppbfikimalojaaGreat
open Tryz
open Go.RowKit
structure Rt where
 v:Int
 b:Int
 p:Int
abbrev rtv(r:Rt):Value:=.agg #[.int .i64 r.v,.int .i64 r.b,.int .i64 r.p]
abbrev kS(r:Rt):List Value:=[.int .i64 r.v,.int .i64 r.b,.int .i64 r.p]
def I6(xs:List Rt):List Value:=xs.flatMap λr=>kS r
def bh(b:Int):Nat:=(4-b).toNat
def isR(r:Rt):Bool:=decide (0<=r.b)&&decide (r.b<=4)&&decide (0<=r.v)&&decide (r.v<16)&&decide (r.v % 2 ^ bh r.b=0)&&decide (0<=r.p)&&decide (r.p<4)
def takesB(r:Rt)(d:Int):Bool:=decide (d / 2 ^ bh r.b=r.v / 2 ^ bh r.b)
def O0(d:Int)(m:Int × Int)(r:Rt):Int × Int:=if isR r&&takesB r d&&decide (m.1<r.b)then(r.b,r.p)else m
def j7(l:List Rt)(d:Int):Int × Int:=l.foldl (O0 d) (-1,0)
def outN(l:List Rt)(d:Int):Int:=if 0<=d/\d<16 then(j7 l d).2 else 0
def outB(l:List Rt)(d:Int):Bool:=decide (0<=d)&&decide (d<16)&&!((j7 l d).1 == -1)
theorem ii{r:Rt}(h:isR r=true):0<=r.b/\r.b<=4:=by
 simp only[isR,Bool.and_eq_true,decide_eq_true_eq]at h;exact⟨h.1.1.1.1.1.1,h.1.1.1.1.1.2⟩
theorem tW{r:Rt}(h:isR r=true):0<=r.v/\r.v<16/\r.v % 2 ^ bh r.b=0:=by
 simp only[isR,Bool.and_eq_true,decide_eq_true_eq]at h;exact⟨h.1.1.1.1.2,h.1.1.1.2,h.1.1.2⟩
theorem tX(l m:List Rt)(d:Int):j7 (l++m) d=m.foldl (O0 d) (j7 l d):=List.foldl_append ..
theorem kT(l:List Rt)(r:Rt)(d:Int):j7 (l++[r]) d=O0 d (j7 l d) r:=by rw[tX];rfl
theorem tY{xs:List Rt}{k:Nat}{r:Rt}(h:xs[k]?=some r)(d:Int):j7 (xs.take (k+1)) d=O0 d (j7 (xs.take k) d) r:=by
 obtain⟨hk,e⟩:=List.getElem?_eq_some_iff.1 h;rw[List.take_succ_eq_append_getElem hk,e,kT]
theorem kU{d:Int}:∀(l:List Rt) (m:Int × Int),(-1<=m.1/\(m.1=-1->m.2=0))->(-1<=(l.foldl (O0 d) m).1/\((l.foldl (O0 d) m).1=-1->(l.foldl (O0 d) m).2=0))
 | [],_,h=>h
 | r::l,m,h=>by
   rw[List.foldl_cons];refine kU l _ ?_;unfold O0
   split
   ·rename_i hc
    simp only[Bool.and_eq_true,decide_eq_true_eq]at hc;have:=(ii hc.1.1).1;exact⟨by simp only;omega,λe=>by simp only at e;omega⟩
   ·exact h
theorem tZ(l:List Rt)(d:Int):-1<=(j7 l d).1/\((j7 l d).1=-1->(j7 l d).2=0):=kU l (-1,0) ⟨by simp,λ_=>rfl⟩
def sameA(r s:Rt):Bool:=(r.v == s.v)&&(r.b == s.b)
def fE(xs:List Rt)(k:Nat)(r:Rt):Int:=if isR r then(if(xs.take k).any (λa=>sameA a r)then 5 else 0)else 1
def o8(xs:List Rt)(k:Nat):Int :=
 if h:k<xs.length then(if fE xs k xs[k]=0 then o8 xs (k+1)else fE xs k xs[k])else 0
termination_by xs.length-k
def checkV(xs:List Rt):Int:=if 8<xs.length then 2 else o8 xs 0
theorem kV{xs:List Rt}{k:Nat}{r:Rt}(h:xs[k]?=some r):o8 xs k=if fE xs k r=0 then o8 xs (k+1)else fE xs k r:=by
 obtain⟨hk,e⟩:=List.getElem?_eq_some_iff.1 h;rw[o8,dif_pos hk,e]
theorem fF{xs:List Rt}{k:Nat}(h:xs.length<=k):o8 xs k=0:=by rw[o8,dif_neg (by omega)]
theorem kW(r:Rt)(l:List Rt):I6 (r::l)=kS r++I6 l:=rfl
theorem ua(a b:List Rt):I6 (a++b)=I6 a++I6 b:=by simp[I6]
theorem kX:∀xs:List Rt,(I6 xs).length=xs.length*3
 | []=>rfl
 | r::l=>by
   have:=kX l;rw[kW,List.length_append,this];simp;omega
theorem ij:∀(xs:List Rt) (k:Nat) (r:Rt),xs[k]?=some r ->
  (I6 xs)[k*3]?=some (.int .i64 r.v)/\(I6 xs)[k*3+1]?=some (.int .i64 r.b)/\(I6 xs)[k*3+2]?=some (.int .i64 r.p)
 | [],k,r,h=>by simp at h
 | x::l,0,r,h=>by
   obtain rfl:x=r:=by simpa using h
   exact⟨rfl,rfl,rfl⟩
 | x::l,k+1,r,h=>by
   have ih:=ij l k r (by simpa using h);have sh:∀j,(I6 (x::l))[(k+1)*3+j]?=(I6 l)[k*3+j]?:=λj=>by
    rw[kW,List.getElem?_append_right (by simp;omega)]
    congr 1
    simp;omega
   have s0:=sh 0;simp only[Nat.add_zero]at s0;rw[s0,sh 1,sh 2];exact ih
def TAt(w:World)(b o:Nat)(xs:List Rt):Prop:=∀j u,(I6 xs)[j]?=some u->w.cell? ⟨b,o+j,none⟩=some u
def Routes(b9:Nat)(w:World)(v:Value)(xs:List Rt):Prop :=
 ∃A cap,v=.slice A xs.length cap/\(A=none->cap=0)/\xs.length<=cap/\cap<=maxLen/\(xs≠[]->∃b o,A=some ⟨b,o,none⟩/\b<b9/\TAt w b o xs)
theorem TAt.at{w:World}{b o:Nat}{xs:List Rt}(h:TAt w b o xs){k:Nat}{r:Rt}(hk:xs[k]?=some r) :
  w.cell? ⟨b,o+k*3,none⟩=some (.int .i64 r.v)/\w.cell? ⟨b,o+k*3+1,none⟩=some (.int .i64 r.b)/\w.cell? ⟨b,o+k*3+2,none⟩=some (.int .i64 r.p):=by
 obtain⟨h0,h1,h2⟩:=ij xs k r hk;exact⟨h _ _ h0,h _ _ h1,h _ _ h2⟩
theorem TAt.below{b9:Nat}{w w':World}{b o:Nat}{xs:List Rt}(h:TAt w b o xs)(hb:Below b9 w w')(hl:b<b9):TAt w' b o xs :=
 λj u hj=>(hb.cell (p:=⟨b,_,none⟩) hl).trans (h j u hj)
theorem TAt.take{w:World}{b o:Nat}{xs:List Rt}(h:TAt w b o xs)(k:Nat):TAt w b o (xs.take k):=λj u hj=>by
 refine h j u ?_;have e:I6 xs=I6 (xs.take k)++I6 (xs.drop k):=by rw[<- ua,List.take_append_drop]
 rw[e,List.getElem?_append_left (List.getElem?_eq_some_iff.1 hj).1];exact hj
theorem Routes.below{b9:Nat}{w w':World}{v:Value}{xs:List Rt}(h:Routes b9 w v xs)(hb:Below b9 w w'):Routes b9 w' v xs:=by
 obtain⟨A,cap,e,h0,h1,h2,h3⟩:=h;refine⟨A,cap,e,h0,h1,h2,λhn=>?_⟩;obtain⟨b,o,ea,hl,hr⟩:=h3 hn;exact⟨b,o,ea,hl,hr.below hb hl⟩
theorem Routes.mono{b9 base':Nat}{w:World}{v:Value}{xs:List Rt}(h:Routes b9 w v xs)(hb:b9<=base'):Routes base' w v xs:=by
 obtain⟨A,cap,e,h0,h1,h2,h3⟩:=h;refine⟨A,cap,e,h0,h1,h2,λhn=>?_⟩;obtain⟨b,o,ea,hl,hr⟩:=h3 hn;exact⟨b,o,ea,by omega,hr⟩
theorem chn{W0 W w':World}(hb:Below W.heap.size W w')(h:Below W0.heap.size W0 W):Below W0.heap.size W0 w':=h.trans (hb.mono h.size)
theorem Below.al{W0 w:World}(h:Below W0.heap.size W0 w)(o:Obj):Below W0.heap.size W0 (w.alloc o):=h.alloc h.size o
def Three(w:World)(n:Nat)(a b c:Value):Prop :=
 n<w.heap.size/\w.cell? ⟨n,0,none⟩=some a/\w.cell? ⟨n,1,none⟩=some b/\w.cell? ⟨n,2,none⟩=some c
theorem aw{B:Nat}{W w':World}{n:Nat}{a b c:Value}(hb:Below B W w')(hB:n<B)(h:Three W n a b c):Three w' n a b c:=by
 obtain⟨h0,h1,h2,h3⟩:=h;exact⟨Nat.lt_of_lt_of_le h0 hb.size,(hb.cell (p:=⟨n,0,none⟩) hB).trans h1,(hb.cell (p:=⟨n,1,none⟩) hB).trans h2,(hb.cell (p:=⟨n,2,none⟩) hB).trans h3⟩
theorem Three.drew{w:World}{n:Nat}{a b c:Value}(h:Three w n a b c):Three w.drew n a b c:=h
theorem aa(w:World)(a b c:Value)(t:TypeId):Three (w.alloc (.cells #[a,b,c] t)) w.heap.size a b c :=
 ⟨by simp,by simp[go_sem],by simp[go_sem],by simp[go_sem]⟩
theorem ub{w:World}{n:Nat}{a b c:Value}(h:Three w n a b c)(o:Obj):Three (w.alloc o) n a b c:=aw ((Below.refl _ _).alloc (Nat.le_refl _) o) h.1 h
theorem f7{W0 W w':World}(hb:Below W.heap.size W w')(h:Below W0.heap.size W0 W):Below W0.heap.size W0 w':=h.trans (hb.mono h.size)
theorem Below.alN{W0 w:World}(h:Below W0.heap.size W0 w)(o:Obj):Below W0.heap.size W0 (w.alloc o):=h.alloc h.size o
def portsV(k:Int):Int:=if k=1 then 1 else if k=2 then 4 else if k=3\/k=4\/k=5 then 2 else 0
def k8(l:Lk)(d p:Int):Option (Int × Int):=if(l.a == d)&&(l.p == p)then some (l.b,l.q)else if(l.b == d)&&(l.q == p)then some (l.a,l.p)else none
def peerF:List Lk->Int->Int->Option (Int × Int)
 | [],_,_=>none
 | l::ls,d,p=>(k8 l d p).or (peerF ls d p)
theorem kY{ls:List Lk}{k:Nat}{l:Lk}(h:ls[k]?=some l)(d p:Int):peerF (ls.drop k) d p=(k8 l d p).or (peerF (ls.drop (k+1)) d p):=by
 obtain⟨hk,e⟩:=List.getElem?_eq_some_iff.1 h;rw[List.drop_eq_getElem_cons hk,e];rfl
abbrev E9:Option (Int × Int)->Value
 | some x=>.agg #[.int .i64 x.1,.int .i64 x.2]
 | none=>.agg #[.int .i64 0,.int .i64 0]
theorem Links.at{b9:Nat}{w:World}{A:Option Addr}{n cap:Nat}{ls:List Lk}(h:Links b9 w (.slice A n cap) ls){k:Nat}{l:Lk}(hk:ls[k]?=some l) :
  ∃b o,A=some ⟨b,o,none⟩/\b<b9/\w.cell? ⟨b,o+k*4,none⟩=some (.int .i64 l.a)/\w.cell? ⟨b,o+k*4+1,none⟩=some (.int .i64 l.p)/\w.cell? ⟨b,o+k*4+2,none⟩=some (.int .i64 l.b)/\w.cell? ⟨b,o+k*4+3,none⟩=some (.int .i64 l.q):=by
 obtain⟨A',d8,e,_,_,_,h3⟩:=h;cases e;obtain⟨b,o,ea,hl,hr⟩:=h3 (λe=>by subst e;simp at hk);obtain⟨cs,_,rfl,hc⟩:=hr k l hk;exact⟨b,o,ea,hl,hc 0 _ rfl,hc 1 _ rfl,hc 2 _ rfl,hc 3 _ rfl⟩
theorem Links.len{b9:Nat}{w:World}{A:Option Addr}{n cap:Nat}{ls:List Lk}(h:Links b9 w (.slice A n cap) ls):n=ls.length/\n<=cap/\cap<=maxLen:=by
 obtain⟨A',d8,e,_,h1,h2,_⟩:=h;cases e;exact⟨rfl,h1,h2⟩
def Box2(w:World)(n:Nat)(x y:Value):Prop:=n<w.heap.size/\w.cell? ⟨n,0,none⟩=some x/\w.cell? ⟨n,1,none⟩=some y/\w.frozen? ⟨n,0,none⟩=false/\w.frozen? ⟨n,1,none⟩=false
theorem Box2.below{B:Nat}{W w':World}{n:Nat}{x y:Value}(h:Box2 W n x y)(hb:Below B W w')(hB:n<B):Box2 w' n x y :=
 ⟨Nat.lt_of_lt_of_le h.1 hb.size,(hb.cell (p:=⟨n,0,none⟩) hB).trans h.2.1,(hb.cell (p:=⟨n,1,none⟩) hB).trans h.2.2.1,(hb.frozen (p:=⟨n,0,none⟩) hB).trans h.2.2.2.1,(hb.frozen (p:=⟨n,1,none⟩) hB).trans h.2.2.2.2⟩
theorem Box2.alloc{w:World}{n:Nat}{x y:Value}(h:Box2 w n x y)(o:Obj):Box2 (w.alloc o) n x y:=h.below ((Below.refl _ _).alloc (Nat.le_refl _) o) h.1
theorem T7(w:World)(x y:Value)(t:TypeId):Box2 (w.alloc (.cells #[x,y] t)) w.heap.size x y:=⟨by simp,by simp[go_sem],by simp[go_sem],by simp[go_sem],by simp[go_sem]⟩
def j8(bs:List Int)(ad:Int)(k:Nat):Int :=
 if h:k<bs.length then(if(decide (0<=bs[k])&&decide (bs[k]<=15))&&!(bs[k] == ad)&&!((bs.take k).any (λy=>y == bs[k]))then j8 bs ad (k+1)else 1)else 0
termination_by bs.length-k
theorem fG{bs:List Int}{ad:Int}{k:Nat}{x:Int}(h:bs[k]?=some x):j8 bs ad k=if(decide (0<=x)&&decide (x<=15))&&!(x == ad)&&!((bs.take k).any (λy=>y == x))then j8 bs ad (k+1)else 1:=by
 obtain⟨hk,e⟩:=List.getElem?_eq_some_iff.1 h;rw[j8,dif_pos hk,e]
theorem dQ{bs:List Int}{ad:Int}{k:Nat}(h:bs.length<=k):j8 bs ad k=0:=by rw[j8,dif_neg (by omega)]
def hasAddr(k:Int):Bool:=(k == 1)||(k == 4)||(k == 5)
def P9(k ad:Int)(pl:Nat)(bs:List Int)(nr nt:Nat)(c:Int):Int :=
 if !(decide (1<=k)&&decide (k<=5))then 1
 else if(hasAddr k&&!(decide (0<=ad)&&decide (ad<=15)))||(!hasAddr k&&!(ad == 0))||(decide (0<pl) !=(k == 4))then 1
 else if 3<bs.length then 2
 else if(decide (bs.length=0) ==(k == 5))then 1
 else if j8 bs ad 0=1 then 1
 else if(decide (0<nr)&&!(k == 2)&&!(k == 3))||(decide (0<nt)&&!(k == 2))then 1
 else if 8<nr then 2
 else c
def Seven(w:World)(n:Nat)(a b c d e f g:Value):Prop :=
 n<w.heap.size/\w.cell? ⟨n,0,none⟩=some a/\w.cell? ⟨n,1,none⟩=some b/\w.cell? ⟨n,2,none⟩=some c/\w.cell? ⟨n,3,none⟩=some d/\w.cell? ⟨n,4,none⟩=some e/\w.cell? ⟨n,5,none⟩=some f/\w.cell? ⟨n,6,none⟩=some g
theorem aL(w:World)(a b c d e f g:Value)(t:TypeId):Seven (w.alloc (.cells #[a,b,c,d,e,f,g] t)) w.heap.size a b c d e f g :=
 ⟨by simp,by simp[go_sem],by simp[go_sem],by simp[go_sem],by simp[go_sem],by simp[go_sem],by simp[go_sem],by simp[go_sem]⟩
theorem Seven.below{B:Nat}{W w':World}{n:Nat}{a b c d e f g:Value}(h:Seven W n a b c d e f g)(hb:Below B W w')(hB:n<B):Seven w' n a b c d e f g:=by
 obtain⟨h0,h1,h2,h3,h4,h5,h6,h7⟩:=h;exact⟨Nat.lt_of_lt_of_le h0 hb.size,(hb.cell (p:=⟨n,0,none⟩) hB).trans h1,(hb.cell (p:=⟨n,1,none⟩) hB).trans h2,(hb.cell (p:=⟨n,2,none⟩) hB).trans h3,(hb.cell (p:=⟨n,3,none⟩) hB).trans h4,(hb.cell (p:=⟨n,4,none⟩) hB).trans h5,(hb.cell (p:=⟨n,5,none⟩) hB).trans h6,(hb.cell (p:=⟨n,6,none⟩) hB).trans h7⟩
theorem I7{B:Nat}{a w:World}(h:Below B a w)(n:Nat):Below B a (w.drewN n):=h.trans ⟨rfl,rfl,rfl,Nat.le_refl _,λ_ _=>rfl⟩
theorem Ints.at{b9:Nat}{w:World}{A:Option Addr}{n cap:Nat}{bs:List Int}(h:SlAt b9 w 1 IsI (.slice A n cap) bs){k:Nat}{x:Int}(hk:bs[k]?=some x) :
  ∃b o,A=some ⟨b,o,none⟩/\b<b9/\∀j y,bs[j]?=some y->w.cell? ⟨b,o+j,none⟩=some (.int .i64 y):=by
 obtain⟨A',d8,e,_,_,_,h3⟩:=h;cases e;obtain⟨b,o,ea,hl,hr⟩:=h3 (λe=>by subst e;simp at hk);refine⟨b,o,ea,hl,λj y hy=>?_⟩;obtain⟨cs,_,rfl,hc⟩:=hr j y hy;have:=hc 0 _ rfl;rw[Nat.mul_one,Nat.add_zero]at this;exact this
theorem kZ{bs:List Int}{j:Nat}{y x:Int}(h:bs[j]?=some y):(bs.take (j+1)).any (λz=>z == x)=((bs.take j).any (λz=>z == x)||(y == x)):=by
 obtain⟨hk,e⟩:=List.getElem?_eq_some_iff.1 h;rw[List.take_succ_eq_append_getElem hk,e];simp
def meetB(m l:Lk):Bool:=((m.a == l.a)&&(m.p == l.p))||((m.a == l.b)&&(m.p == l.q))||((m.b == l.a)&&(m.q == l.p))||((m.b == l.b)&&(m.q == l.q))
def selfB(l:Lk):Bool:=(l.a == l.b)&&(l.p == l.q)
theorem ac{l:Lk}{d p:Int}{x:Int × Int}(h:k8 l d p=some x):((l.a=d/\l.p=p)/\x=(l.b,l.q))\/((l.b=d/\l.q=p)/\x=(l.a,l.p)):=by
 unfold k8 at h
 split at h
 ·rename_i hc
  simp only[Bool.and_eq_true,beq_iff_eq]at hc;exact .inl ⟨hc,(Option.some.inj h).symm⟩
 ·split at h
  ·rename_i hc
   simp only[Bool.and_eq_true,beq_iff_eq]at hc;exact .inr ⟨hc,(Option.some.inj h).symm⟩
  ·cases h
theorem uc(l:Lk):k8 l l.a l.p=some (l.b,l.q):=by unfold k8;simp
theorem ud{l:Lk}(hs:selfB l=false):k8 l l.b l.q=some (l.a,l.p):=by
 unfold k8;unfold selfB at hs;rw[hs];simp
theorem lh{l:Lk}{d p:Int}{x:Int × Int}(hs:selfB l=false)(h:k8 l d p=some x):k8 l x.1 x.2=some (d,p):=by
 rcases ac h with⟨⟨rfl,rfl⟩,rfl⟩|⟨⟨rfl,rfl⟩,rfl⟩
 ·exact ud hs
 ·exact uc l
theorem li{m l:Lk}{d p:Int}(h1:(k8 m d p).isSome)(h2:(k8 l d p).isSome):meetB m l=true:=by
 obtain⟨x,hx⟩:=Option.isSome_iff_exists.1 h1;obtain⟨y,hy⟩:=Option.isSome_iff_exists.1 h2;unfold meetB;rcases ac hx with⟨⟨h1,h2⟩,_⟩|⟨⟨h1,h2⟩,_⟩ <;> rcases ac hy with⟨⟨h3,h4⟩,_⟩|⟨⟨h3,h4⟩,_⟩ <;> simp[h1,h2,h3,h4]
theorem aN{ls:List Lk}{d p:Int}{x:Int × Int}(h:peerF ls d p=some x):∃l∈ls,k8 l d p=some x:=by
 induction ls with
 | nil=>simp[peerF]at h
 | cons l ls ih =>
   rw[peerF]at h;cases he:k8 l d p with
   | some y =>
     rw[he]at h;exact⟨l,by simp,by rw[he];simpa using h⟩
   | none =>
     rw[he]at h;obtain⟨m,hm,e⟩:=ih (by simpa using h);exact⟨m,by simp[hm],e⟩
def Apart(ls:List Lk):Prop:=ls.Pairwise (λm l=>meetB m l=false)/\∀l∈ls,selfB l=false
theorem Apart.tail{l:Lk}{ls:List Lk}(h:Apart (l::ls)):Apart ls:=⟨(List.pairwise_cons.1 h.1).2,λm hm=>h.2 m (by simp[hm])⟩
theorem fH{ls:List Lk}(hA:Apart ls){d p:Int}{x:Int × Int}(h:peerF ls d p=some x):peerF ls x.1 x.2=some (d,p):=by
 induction ls with
 | nil=>simp[peerF]at h
 | cons l ls ih =>
   rw[peerF]at h;cases he:k8 l d p with
   | some y =>
     rw[he]at h;obtain rfl:y=x:=by simpa using h
     rw[peerF,lh (hA.2 l (by simp)) he];rfl
   | none =>
     rw[he]at h;have h':peerF ls d p=some x:=by simpa using h
     obtain⟨m,hm,e⟩:=aN h';have hb:=lh (hA.2 m (by simp[hm])) e;have hn:k8 l x.1 x.2=none:=by
      cases hq:k8 l x.1 x.2 with
      | none=>rfl
      | some z =>
        have:=li (m:=l) (l:=m) (by rw[hq];rfl) (by rw[hb];rfl);rw[(List.pairwise_cons.1 hA.1).1 m hm]at this;cases this
     rw[peerF,hn,ih hA.tail h'];rfl
def linked(ls:List Lk)(i k:Nat):Nat:=((List.range k).map λk:Nat=>((i:Int),(k:Int))).countP (λx=>(peerF ls x.1 x.2).isSome)
def C0(c:UInt8):Bool:=(decide (97<=(c.toNat:Int))&&decide ((c.toNat:Int)<=122))||(decide (48<=(c.toNat:Int))&&decide ((c.toNat:Int)<=57))
def nameOk(s:ByteArray):Bool:=decide (1<=s.size)&&decide (s.size<=8)&&s.data.toList.all C0
def rtOf(r:NRoute):Rt:=⟨r.v,r.b,r.p⟩
def devC(d:Dv):Int:=P9 d.kind d.addr d.pool d.backs d.rules.length d.routes.length (checkV (d.routes.map rtOf))
def C8(ds:List Dv)(k:Nat)(d:Dv):Int:=if nameOk d.name then(if(ds.take k).any (λx=>x.name.toList == d.name.toList)then 5 else devC d)else 3
def m9(ds:List Dv)(k:Nat):Int :=
 if h:k<ds.length then(if C8 ds k ds[k]=0 then m9 ds (k+1)else C8 ds k ds[k])else 0
termination_by ds.length-k
theorem cX{ds:List Dv}{k:Nat}{d:Dv}(h:ds[k]?=some d):m9 ds k=if C8 ds k d=0 then m9 ds (k+1)else C8 ds k d:=by
 obtain⟨hk,e⟩:=List.getElem?_eq_some_iff.1 h;rw[m9,dif_pos hk,e]
theorem fI{ds:List Dv}{k:Nat}(h:ds.length<=k):m9 ds k=0:=by rw[m9,dif_neg (by omega)]
def k9(ds:List Dv)(d:Int):Int:=((ds[d.toNat]?).map (·.kind)).getD 0
def isPl(ds:List Dv)(d p:Int):Bool:=decide (0<=d)&&decide (d<(ds.length:Int))&&decide (0<=p)&&decide (p<portsV (k9 ds d))
def I8(ds:List Dv)(ls:List Lk)(k:Nat)(l:Lk):Int:=if isPl ds l.a l.p&&isPl ds l.b l.q then(if selfB l||(ls.take k).any (λm=>meetB m l)then 5 else 0)else 1
def o9(ds:List Dv)(ls:List Lk)(k:Nat):Int :=
 if h:k<ls.length then(if I8 ds ls k ls[k]=0 then o9 ds ls (k+1)else I8 ds ls k ls[k])else 0
termination_by ls.length-k
theorem fJ{ds:List Dv}{ls:List Lk}{k:Nat}{l:Lk}(h:ls[k]?=some l):o9 ds ls k=if I8 ds ls k l=0 then o9 ds ls (k+1)else I8 ds ls k l:=by
 obtain⟨hk,e⟩:=List.getElem?_eq_some_iff.1 h;rw[o9,dif_pos hk,e]
theorem fK{ds:List Dv}{ls:List Lk}{k:Nat}(h:ls.length<=k):o9 ds ls k=0:=by rw[o9,dif_neg (by omega)]
def netV(ds:List Dv)(ls:List Lk):Int:=if 10<ds.length\/15<ls.length then 2 else if m9 ds 0=0 then o9 ds ls 0 else m9 ds 0
theorem lj{ds:List Dv}{ls:List Lk}:∀(m k:Nat),ls.length-k<=m->o9 ds ls k=0->∀j l,k<=j->ls[j]?=some l->I8 ds ls j l=0
 | 0,k,h,_,j,l,hj,hl=>by
   have:=(List.getElem?_eq_some_iff.1 hl).1;omega
 | m+1,k,h,h0,j,l,hj,hl=>by
   have hjl:=(List.getElem?_eq_some_iff.1 hl).1;have hk:k<ls.length:=by omega
   rw[fJ (List.getElem?_eq_getElem hk)]at h0
   split at h0
   ·rename_i hw
    by_cases e:j=k
    ·subst e;rw[List.getElem?_eq_getElem hk,Option.some.injEq]at hl;rw[<- hl];exact hw
    ·exact lj m (k+1) (by omega) h0 j l (by omega) hl
   ·rename_i hw
    exact absurd h0 hw
theorem ik{ds:List Dv}{ls:List Lk}{k:Nat}{l:Lk}(h:I8 ds ls k l=0):isPl ds l.a l.p=true/\isPl ds l.b l.q=true/\selfB l=false/\(ls.take k).any (λm=>meetB m l)=false:=by
 unfold I8 at h
 split at h
 ·rename_i h1
  simp only[Bool.and_eq_true]at h1
  split at h
  ·simp at h
  ·rename_i h2
   rw[Bool.not_eq_true,Bool.or_eq_false_iff]at h2;exact⟨h1.1,h1.2,h2.1,h2.2⟩
 ·simp at h
theorem l7{ds:List Dv}{ls:List Lk}(h:netV ds ls=0):ds.length<=10/\ls.length<=15/\Apart ls/\∀l∈ls,isPl ds l.a l.p=true/\isPl ds l.b l.q=true:=by
 unfold netV at h
 split at h
 ·simp at h
 ·rename_i hn
  split at h
  ·have all:=lj ls.length 0 (by omega) h;have each:∀l∈ls,∃k,ls[k]?=some l:=λl hl=>by
    obtain⟨k,hk,e⟩:=List.mem_iff_getElem.1 hl;exact⟨k,by rw[List.getElem?_eq_getElem hk,e]⟩
   refine⟨by omega,by omega,⟨?_,λl hl=>?_⟩,λl hl=>?_⟩
   ·rw[List.pairwise_iff_getElem];intro i j hi hj hij;have:=(ik (all j _ (Nat.zero_le _) (List.getElem?_eq_getElem hj))).2.2.2;rw[List.any_eq_false]at this;have hm:=this ls[i] (by
     rw[List.mem_take_iff_getElem];exact⟨i,by omega,rfl⟩)
    simpa using hm
   ·obtain⟨k,hk⟩:=each l hl;exact(ik (all k _ (Nat.zero_le _) hk)).2.2.1
   ·obtain⟨k,hk⟩:=each l hl;have:=ik (all k _ (Nat.zero_le _) hk);exact⟨this.1,this.2.1⟩
  ·rename_i h0
   exact absurd h h0
theorem lk(k:Int):∃n:Nat,portsV k=(n:Int)/\n<=4:=by
 unfold portsV
 split
 ·exact⟨1,rfl,by omega⟩
 ·split
  ·exact⟨4,rfl,by omega⟩
  ·split
   ·exact⟨2,rfl,by omega⟩
   ·exact⟨0,rfl,by omega⟩
theorem fL{b9:Nat}{w:World}{v:Value}{xs:List NRoute}(h:SlAt b9 w 3 C7 v xs):Routes b9 w v (xs.map rtOf):=by
 obtain⟨A,cap,rfl,h0,h1,h2,h3⟩:=h;refine⟨A,cap,by rw[List.length_map],h0,by rw[List.length_map];exact h1,h2,λhn=>?_⟩;obtain⟨b,o,ea,hl,hr⟩:=h3 (λe=>hn (by rw[e];rfl));refine⟨b,o,ea,hl,λj u hj=>?_⟩;have hjl:=(List.getElem?_eq_some_iff.1 hj).1;rw[kX,List.length_map]at hjl;have hk:j / 3<xs.length:=by omega
 have hx:xs[j / 3]?=some xs[j / 3]:=List.getElem?_eq_getElem hk;obtain⟨cs,_,rfl,hc⟩:=hr _ _ hx;obtain⟨c0,c1,c2⟩:=ij (xs.map rtOf) (j / 3) (rtOf xs[j / 3]) (by rw[List.getElem?_map,hx];rfl);have hm:j % 3=0\/j % 3=1\/j % 3=2:=by omega
 have ej:j=j / 3*3+j % 3:=by omega
 have eo:o+j=o+j / 3*3+j % 3:=by omega
 rw[eo];rcases hm with hm|hm|hm
 ·have:u=.int .i64 xs[j / 3].v:=by
   rw[show j=j / 3*3 by omega,c0]at hj;exact(Option.some.inj hj).symm
  rw[hm,this];exact hc 0 _ rfl
 ·have:u=.int .i64 xs[j / 3].b:=by
   rw[show j=j / 3*3+1 by omega,c1]at hj;exact(Option.some.inj hj).symm
  rw[hm,this];exact hc 1 _ rfl
 ·have:u=.int .i64 xs[j / 3].p:=by
   rw[show j=j / 3*3+2 by omega,c2]at hj;exact(Option.some.inj hj).symm
  rw[hm,this];exact hc 2 _ rfl
abbrev F9(nm:ByteArray)(k ad:Int)(pl:Nat)(vb vr vt:Value):Value:=.agg #[.string nm,.int .i64 k,.int .i64 ad,.int .u8 (pl:Int),vb,vr,vt]
abbrev lkA(a p b q:Int):Value:=.agg #[.int .i64 a,.int .i64 p,.int .i64 b,.int .i64 q]
abbrev plA(d p:Int):Value:=.agg #[.int .i64 d,.int .i64 p]
theorem fM(k:Int)(w:World):Calls prog 54 #[.int .i64 k] w λe w'=>e=.returned (.int .i64 (portsV k))/\w'=w:=by
 by_cases h1:k=1
 ·subst h1;go_enter func54,ntmps54;go_wp2_with fail;go_ret;exact⟨rfl,rfl⟩
 by_cases h2:k=2
 ·subst h2;go_enter func54,ntmps54;go_wp2_with fail;go_ret;exact⟨rfl,rfl⟩
 by_cases h3:k=3
 ·subst h3;go_enter func54,ntmps54;go_wp2_with fail;go_ret;exact⟨rfl,rfl⟩
 by_cases h4:k=4
 ·subst h4;go_enter func54,ntmps54;go_wp2_with fail;go_ret;exact⟨rfl,rfl⟩
 by_cases h5:k=5
 ·subst h5;go_enter func54,ntmps54;go_wp2_with fail;go_ret;exact⟨rfl,rfl⟩
 have e:portsV k=0:=by
  unfold portsV;rw[if_neg h1,if_neg h2,if_neg (by omega)]
 rw[e];have g1:(k == 1)=false:=beq_eq_false_iff_ne.2 h1;have g2:(k == 2)=false:=beq_eq_false_iff_ne.2 h2;have g3:(k == 3)=false:=beq_eq_false_iff_ne.2 h3;have g4:(k == 4)=false:=beq_eq_false_iff_ne.2 h4;have g5:(k == 5)=false:=beq_eq_false_iff_ne.2 h5;clear h1 h2 h3 h4 h5 e;go_enter func54,ntmps54;go_wp2_with fail;go_ret;exact⟨rfl,rfl⟩
theorem ax(a p b q:Int)(w:World):Calls prog 120 #[lkA a p b q] w λe w'=>e=.returned (plA a p)/\Below w.heap.size w w':=by
 go_enter func120,ntmps120;go_wp2_with fail;refine bodyPost_ret (v:=plA a p) (by simp[results,results120,go_sem]) rfl ⟨rfl,?_⟩;exact Below.alN (Below.alN (Below.refl _ _) _) _
theorem ay(a p b q:Int)(w:World):Calls prog 121 #[lkA a p b q] w λe w'=>e=.returned (plA b q)/\Below w.heap.size w w':=by
 go_enter func121,ntmps121;go_wp2_with fail;refine bodyPost_ret (v:=plA b q) (by simp[results,results121,go_sem]) rfl ⟨rfl,?_⟩;exact Below.alN (Below.alN (Below.refl _ _) _) _
theorem ue(k:Int)(w:World):Calls prog 164 #[.int .i64 k] w λe w'=>e=.returned (.bool (hasAddr k))/\w'=w:=by
 unfold hasAddr;cases h1:(k == 1)
 ·cases h4:(k == 4)
  ·go_enter func164,ntmps164;go_wp2_with fail;go_ret;exact⟨by simp,rfl⟩
  ·go_enter func164,ntmps164;go_wp2_with fail;go_ret;exact⟨by simp,rfl⟩
 ·go_enter func164,ntmps164;go_wp2_with fail;go_ret;exact⟨by simp,rfl⟩
def addrB(n:Int):Bool:=decide (0<=n)&&decide (n<16)
theorem lu(n:Int)(w:World):Calls prog 165 #[.int .i64 n] w λe w'=>e=.returned (.bool (addrB n))/\w'=w:=by
 unfold addrB;cases h1:decide (0<=n)
 ·go_enter func165,ntmps165;go_wp2_with fail;go_ret;exact⟨by simp,rfl⟩
 ·go_enter func165,ntmps165;go_wp2_with fail;go_ret;exact⟨by simp,rfl⟩
def addrF(k ad:Int):Bool:=if hasAddr k then addrB ad else ad == 0
theorem uh(nm:ByteArray)(k ad:Int)(pl:Nat)(vb vr vt:Value)(w:World):Calls prog 113 #[F9 nm k ad pl vb vr vt] w λe w'=>e=.returned (.bool (addrF k ad))/\Below w.heap.size w w':=by
 have D0:=Below.alN (Below.refl w.heap.size w) (.cells #[.string nm,.int .i64 k,.int .i64 ad,.int .u8 (pl:Int),vb,vr,vt] 56);have HA:Hid (∀w,Calls prog 164 #[.int .i64 k] w λe w'=>e=.returned (.bool (hasAddr k))/\w'=w):=λw=>ue k w;have IA:Hid (∀w,Calls prog 165 #[.int .i64 ad] w λe w'=>e=.returned (.bool (addrB ad))/\w'=w):=λw=>lu ad w;unfold addrF;generalize hasAddr k=x at *;generalize addrB ad=y at *;cases x
 ·go_enter func113,ntmps113;go_wp2_with fail;refine(HA.out _).mono ?_;rintro e w1⟨rfl,rfl⟩;go_wp2_with fail;go_ret;exact⟨rfl,D0⟩
 ·go_enter func113,ntmps113;go_wp2_with fail;refine(HA.out _).mono ?_;rintro e w1⟨rfl,rfl⟩;go_wp2_with fail;refine(IA.out _).mono ?_;rintro e w1⟨rfl,rfl⟩;go_wp2_with fail;go_ret;exact⟨rfl,D0⟩
def poolF(k:Int)(pl:Nat):Bool:=(!((pl:Int) == 0)) ==(k == 4)
theorem ui(nm:ByteArray)(k ad:Int)(pl:Nat)(vb vr vt:Value)(w:World):Calls prog 114 #[F9 nm k ad pl vb vr vt] w λe w'=>e=.returned (.bool (poolF k pl))/\Below w.heap.size w w':=by
 have D0:=Below.alN (Below.refl w.heap.size w) (.cells #[.string nm,.int .i64 k,.int .i64 ad,.int .u8 (pl:Int),vb,vr,vt] 56);unfold poolF;cases h1:((pl:Int) == 0) <;> cases h2:(k == 4)
 all_goals
  go_enter func114,ntmps114;go_wp2_with fail;go_ret;exact⟨by first|rfl|(simp;simpa using h1)|simp,D0⟩
def listsF(k:Int)(nr nt:Nat):Bool:=((k == 2)||(k == 3)||decide (nr=0))&&((k == 2)||decide (nt=0))
theorem uj(nm:ByteArray)(k ad:Int)(pl:Nat)(vb:Value)(Ar At:Option Addr)(nr cr nt ct:Nat)(w:World):Calls prog 116 #[F9 nm k ad pl vb (.slice Ar nr cr) (.slice At nt ct)] w λe w'=>e=.returned (.bool (listsF k nr nt))/\Below w.heap.size w w':=by
 have D0:=Below.alN (Below.refl w.heap.size w) (.cells #[.string nm,.int .i64 k,.int .i64 ad,.int .u8 (pl:Int),vb,.slice Ar nr cr,.slice At nt ct] 56);unfold listsF;have er:decide (nr=0)=((nr:Int) == 0):=by rw[Bool.eq_iff_iff];simp
 have et:decide (nt=0)=((nt:Int) == 0):=by rw[Bool.eq_iff_iff];simp
 rw[er,et];clear er et;cases h2:(k == 2) <;> cases h3:(k == 3) <;> cases hr:((nr:Int) == 0) <;> cases ht:((nt:Int) == 0)
 all_goals
  go_enter func116,ntmps116;go_wp2_with fail;go_ret;exact⟨by first|rfl|simp,D0⟩
theorem uk(A:Option Addr)(n cap:Nat)(w:World):Calls prog 117 #[.slice A n cap] w λe w'=>e=.returned (.int .i64 (if 8<n then 2 else 0))/\w'=w:=by
 by_cases h:8<n
 ·have t:decide ((8:Int)<(n:Int))=true:=by simp;omega
  rw[if_pos h];go_enter func117,ntmps117;go_wp2_with fail;go_ret;exact⟨rfl,rfl⟩
 ·have t:decide ((8:Int)<(n:Int))=false:=by simp;omega
  rw[if_neg h];go_enter func117,ntmps117;go_wp2_with fail;go_ret;exact⟨rfl,rfl⟩
theorem Q9(a b c d:Int)(w:World):(binOp .eql 27 (plA a b) (plA c d)).run prog w=.ok (.bool ((a == c)&&(b == d))) w:=by
 cases h1:(a == c) <;> cases h2:(b == d)
 all_goals simp[go_sem,underlying27,underlying3,h1,h2]
theorem Box2.drew{w:World}{n:Nat}{x y:Value}(h:Box2 w n x y):Box2 w.drew n x y:=h
def Lk4(w:World)(n:Nat)(a b c d:Value):Prop:=n<w.heap.size/\w.cell? ⟨n,0,none⟩=some a/\w.cell? ⟨n,1,none⟩=some b/\w.cell? ⟨n,2,none⟩=some c/\w.cell? ⟨n,3,none⟩=some d
theorem dR(w:World)(a b c d:Value)(t:TypeId):Lk4 (w.alloc (.cells #[a,b,c,d] t)) w.heap.size a b c d:=⟨by simp,by simp[go_sem],by simp[go_sem],by simp[go_sem],by simp[go_sem]⟩
theorem Lk4.below{B:Nat}{W w':World}{n:Nat}{a b c d:Value}(h:Lk4 W n a b c d)(hb:Below B W w')(hB:n<B):Lk4 w' n a b c d:=by
 obtain⟨h0,h1,h2,h3,h4⟩:=h;exact⟨Nat.lt_of_lt_of_le h0 hb.size,(hb.cell (p:=⟨n,0,none⟩) hB).trans h1,(hb.cell (p:=⟨n,1,none⟩) hB).trans h2,(hb.cell (p:=⟨n,2,none⟩) hB).trans h3,(hb.cell (p:=⟨n,3,none⟩) hB).trans h4⟩
theorem Lk4.alloc{w:World}{n:Nat}{a b c d:Value}(h:Lk4 w n a b c d)(o:Obj):Lk4 (w.alloc o) n a b c d:=h.below ((Below.refl _ _).alloc (Nat.le_refl _) o) h.1
theorem Lk4.drew{w:World}{n:Nat}{a b c d:Value}(h:Lk4 w n a b c d):Lk4 w.drew n a b c d:=h
theorem il(vd:Value)(A:Option Addr)(n cap:Nat)(ls:List Lk)(d p:Int)(w:World)(hL:Hid (Links w.heap.size w (.slice A n cap) ls)) :
  Calls prog 67 #[.agg #[vd,.slice A n cap],plA d p] w λe w'=>e=.returned (.tuple #[E9 (peerF ls d p),.bool (peerF ls d p).isSome])/\Below w.heap.size w w':=by
 obtain⟨rfl,hc,hm⟩:=hL.out.len;unfold maxLen at hm;have D1:=Below.alN (Below.refl w.heap.size w) (.cells #[vd,.slice A ls.length cap] 25);have D2:=Below.alN D1 (.cells #[.int .i64 d,.int .i64 p] 27);have D3:=Below.alN D2 (.cells #[.int .i64 0,.int .i64 0] 27);have B1:=((T7 w vd (.slice A ls.length cap) 25).alloc (.cells #[.int .i64 d,.int .i64 p] 27)).alloc (.cells #[.int .i64 0,.int .i64 0] 27);have B2:=(T7 (w.alloc (.cells #[vd,.slice A ls.length cap] 25)) (.int .i64 d) (.int .i64 p) 27).alloc (.cells #[.int .i64 0,.int .i64 0] 27);have B3:=T7 ((w.alloc (.cells #[vd,.slice A ls.length cap] 25)).alloc (.cells #[.int .i64 d,.int .i64 p] 27)) (.int .i64 0) (.int .i64 0) 27;simp only[World.size_alloc]at B2 B3;go_enter func67,ntmps67;go_wp2_with fail;go_loopw[11] (λi wr=>∃k:Nat,i=.int .i64 (k:Int)/\k<=ls.length/\Below w.heap.size w wr/\Box2 wr w.heap.size vd (.slice A ls.length cap)/\Box2 wr (w.heap.size+1) (.int .i64 d) (.int .i64 p)/\Box2 wr (w.heap.size+1+1) (.int .i64 0) (.int .i64 0)/\Hid (peerF ls d p=peerF (ls.drop k) d p)) (λi _=>ls.length-(intOf i).toNat)
 case atStart=>exact⟨0,rfl,by omega,D3,B1,B2,B3,rfl⟩
 case round =>
  clear B1 B2 B3 D1 D2 D3;obtain⟨k,rfl,hk,D1,B1,B2,B3,hl⟩:=hrel;obtain⟨n1,e0,e1,_⟩:=id B1;by_cases hlt:k<ls.length
  ·obtain⟨l,hlk⟩:∃l,ls[k]?=some l:=⟨_,List.getElem?_eq_getElem hlt⟩;obtain⟨b,o,rfl,hb,c0,c1,c2,c3⟩:=(hL.out.below D1).at hlk;have Hd:Hid (peerF (ls.drop k) d p=(k8 l d p).or (peerF (ls.drop (k+1)) d p)):=kY hlk d p;have D2:=Below.alN D1 (.cells #[.int .i64 l.a,.int .i64 l.p,.int .i64 l.b,.int .i64 l.q] 96);have E1:=B1.alloc (.cells #[.int .i64 l.a,.int .i64 l.p,.int .i64 l.b,.int .i64 l.q] 96);have E2:=B2.alloc (.cells #[.int .i64 l.a,.int .i64 l.p,.int .i64 l.b,.int .i64 l.q] 96);have E3:=B3.alloc (.cells #[.int .i64 l.a,.int .i64 l.p,.int .i64 l.b,.int .i64 l.q] 96);have k1:(0:Int)<=(k:Int):=by omega
   have k2:(k:Int)<(ls.length:Int):=by omega
   have lw:=D1.size;have FR:Hid (∀w,Calls prog 120 #[lkA l.a l.p l.b l.q] w λe w'=>e=.returned (plA l.a l.p)/\Below w.heap.size w w'):=λw=>ax _ _ _ _ w;have TO:Hid (∀w,Calls prog 121 #[lkA l.a l.p l.b l.q] w λe w'=>e=.returned (plA l.b l.q)/\Below w.heap.size w w'):=λw=>ay _ _ _ _ w;unfold k8 at Hd;clear hlk hL;generalize l.a=la at *;generalize l.p=lp at *;generalize l.b=lb at *;generalize l.q=lq at *;have L0:=dR wr (.int .i64 la) (.int .i64 lp) (.int .i64 lb) (.int .i64 lq) 96;obtain⟨n2,f0,f1,f2,f3⟩:=id E2;have P1:=λw=>Q9 la lp d p w;have P2:=λw=>Q9 lb lq d p w;generalize ((la == d)&&(lp == p))=x0 at *;generalize ((lb == d)&&(lq == p))=x1 at *;go_wp2_with fail;go_region_held3 (λw'=>w'.cell? ⟨wr.heap.size,0,none⟩=some (.int .i64 la)/\w'.cell? ⟨wr.heap.size,1,none⟩=some (.int .i64 lp)/\w'.cell? ⟨wr.heap.size,2,none⟩=some (.int .i64 lb)/\w'.cell? ⟨wr.heap.size,3,none⟩=some (.int .i64 lq)/\w'.cell? ⟨w.heap.size+1,0,none⟩=some (.int .i64 d)/\w'.cell? ⟨w.heap.size+1,1,none⟩=some (.int .i64 p)) (go_keep) ((go_at_call 120;refine(FR.out _).mono ?_;rintro e w2⟨rfl,hb2⟩;have D3:=f7 hb2 D2.drew;have G1:=E1.drew.below hb2 E1.1;have G2:=E2.drew.below hb2 E2.1;have G3:=E3.drew.below hb2 E3.1;have G4:=L0.drew.below hb2 L0.1;obtain⟨_,g0,g1,_⟩:=id G2;obtain⟨_,g2,g3,g4,g5⟩:=id G4))
   clear E1 E2 E3 L0 f0 f1 f2 f3 c0 c1 c2 c3 e0 e1;cases x0
   ·go_wp2_with fail;go_region_held3 (λw'=>w'.cell? ⟨wr.heap.size,0,none⟩=some (.int .i64 la)/\w'.cell? ⟨wr.heap.size,1,none⟩=some (.int .i64 lp)/\w'.cell? ⟨wr.heap.size,2,none⟩=some (.int .i64 lb)/\w'.cell? ⟨wr.heap.size,3,none⟩=some (.int .i64 lq)/\w'.cell? ⟨w.heap.size+1,0,none⟩=some (.int .i64 d)/\w'.cell? ⟨w.heap.size+1,1,none⟩=some (.int .i64 p)) (go_keep) ((go_at_call 121;refine(TO.out _).mono ?_;rintro e w3⟨rfl,hb3⟩;have D4:=f7 hb3 D3.drew;have J1:=G1.drew.below hb3 G1.1;have J2:=G2.drew.below hb3 G2.1;have J3:=G3.drew.below hb3 G3.1;have J4:=G4.drew.below hb3 G4.1;obtain⟨_,j0,j1,_⟩:=id J2;obtain⟨_,j2,j3,j4,j5⟩:=id J4))
    clear g0 g1 g2 g3 g4 g5 G1 G2 G3 G4;cases x1
    ·have Hn:Hid (peerF ls d p=peerF (ls.drop (k+1)) d p):=by show _=_;rw[hl.out,Hd.out];rfl
     go_wp2_with fail;go_roundw
     case rel=>exact⟨k+1,by go_num,by omega,D4,J1,J2,J3,Hn⟩
     case measure=>simp[intOf];omega
    ·have Hn:Hid (peerF ls d p=some (la,lp)):=by show _=_;rw[hl.out,Hd.out];rfl
     clear hl Hd;go_wp2_with fail;refine(FR.out _).mono ?_;rintro e w4⟨rfl,hb4⟩;have D5:=f7 hb4 D4;have K3:=J3.below hb4 J3.1;obtain⟨n3,g0,g1,g2,g3⟩:=id K3;clear J1 J2 J3 J4 hb4;go_wp2_with fail;refine bodyPost_ret (v:=.tuple #[.agg #[.int .i64 la,.int .i64 lp],.bool true]) (by simp[results,results67,go_sem,g0,g1]) rfl ⟨by rw[Hn.out];rfl,?_⟩;exact(D5.setCell (by simp;omega) _).setCell (by simp;omega) _
   ·have Hn:Hid (peerF ls d p=some (lb,lq)):=by show _=_;rw[hl.out,Hd.out];rfl
    clear hl Hd;go_wp2_with fail;refine(TO.out _).mono ?_;rintro e w4⟨rfl,hb4⟩;have D5:=f7 hb4 D3;have K3:=G3.below hb4 G3.1;clear g0 g1 g2 g3 g4 g5 G1 G2 G3 G4 hb4;obtain⟨n3,g0,g1,g2,g3⟩:=id K3;go_wp2_with fail;refine bodyPost_ret (v:=.tuple #[.agg #[.int .i64 lb,.int .i64 lq],.bool true]) (by simp[results,results67,go_sem,g0,g1]) rfl ⟨by rw[Hn.out];rfl,?_⟩;exact(D5.setCell (by simp;omega) _).setCell (by simp;omega) _
  ·have Hn:Hid (peerF ls d p=none):=by show _=_;rw[hl.out,List.drop_eq_nil_of_le (by omega)];rfl
   obtain⟨n3,g0,g1,g2,g3⟩:=id B3;go_wp2_with fail;refine bodyPost_ret (v:=.tuple #[.agg #[.int .i64 0,.int .i64 0],.bool false]) (by simp[results,results67,go_sem,g0,g1]) rfl ⟨by rw[Hn.out];rfl,?_⟩;exact(D1.setCell (by simp;omega) _).setCell (by simp;omega) _
theorem lv(s:ByteArray)(k:Nat)(h:k<s.size):(s.data.toList.drop k).all C0=(C0 s[k]&&(s.data.toList.drop (k+1)).all C0):=by
 rw[List.drop_eq_getElem_cons (by rw[<- Lib.size_eq];exact h),List.all_cons];rfl
theorem ul(s:ByteArray)(w:World)(h1:1<=s.size)(h8:s.size<=8)(res:Bool)(hres:Hid (s.data.toList.all C0=res)) :
  Calls prog 111 #[.string s] w λe w'=>e=.returned (.bool res)/\w'=w:=by
 have t1:decide ((s.size:Int)<1)=false:=by simp;omega
 have t8:decide ((8:Int)<(s.size:Int))=false:=by simp;omega
 go_enter func111,ntmps111;go_wp2_with fail
 go_loop [16] (λi=>∃k:Nat,k<=s.size/\i=.int .i64 k/\Hid ((s.data.toList.drop k).all C0=res)) (λi=>s.size-(intOf i).toNat)
 case atStart=>exact⟨0,by omega,rfl,hres⟩
 case round =>
  obtain⟨k,hk,rfl,HD⟩:=hrel;by_cases hlt:k<s.size
  ·have HS:Hid ((s.data.toList.drop k).all C0=(C0 s[k]&&(s.data.toList.drop (k+1)).all C0)):=lv s k hlt;have HN:Hid (C0 s[k]=((decide (97<=(s[k].toNat:Int))&&decide ((s[k].toNat:Int)<=122))||(decide (48<=(s[k].toNat:Int))&&decide ((s[k].toNat:Int)<=57)))):=rfl;cases a1:decide (97<=(s[k].toNat:Int)) <;> cases a2:decide ((s[k].toNat:Int)<=122) <;> cases a3:decide (48<=(s[k].toNat:Int)) <;> cases a4:decide ((s[k].toNat:Int)<=57)
   all_goals
    rw[a1,a2,a3,a4]at HN;first
     | (have HV : Hid ((s.data.toList.drop (k + 1)).all C0    = res) := by
         show _=_;rw[<- HD.out,HS.out,HN.out];rfl
        clear HN HS HD;go_wp2_with fail
        go_round
        case rel=>exact⟨k+1,by omega,congrArg (Value.int .i64) (by omega),HV⟩
        case measure=>simp[intOf];omega)
     | (have HV : Hid (res = false) := by
         show _=_;rw[<- HD.out,HS.out,HN.out];rfl
        clear HN HS HD;go_wp2_with fail;go_ret;exact⟨by rw[HV.out];rfl,rfl⟩)
  ·have HV:Hid (res=true):=by
    show _=_;rw[<- HD.out,List.drop_eq_nil_of_le (by rw[<- Lib.size_eq];omega)];rfl
   go_wp2_with fail;go_ret;exact⟨by rw[HV.out];rfl,rfl⟩
theorem um(s:ByteArray)(w:World):Calls prog 111 #[.string s] w λe w'=>e=.returned (.bool (nameOk s))/\w'=w:=by
 unfold nameOk;by_cases h1:1<=s.size
 ·by_cases h8:s.size<=8
  ·simp only[h1,h8,decide_true,Bool.true_and];exact ul s w h1 h8 _ rfl
  ·simp only[h1,h8,decide_true,decide_false,Bool.and_false,Bool.false_and];have t1:decide ((s.size:Int)<1)=false:=by simp;omega
   have t8:decide ((8:Int)<(s.size:Int))=true:=by simp;omega
   go_enter func111,ntmps111;go_wp2_with fail;go_ret;exact⟨rfl,rfl⟩
 ·simp only[h1,decide_false,Bool.false_and];have t1:decide ((s.size:Int)<1)=true:=by simp;omega
  go_enter func111,ntmps111;go_wp2_with fail;go_ret;exact⟨rfl,rfl⟩
def findFrom(ds:List Dv)(s:List UInt8)(k:Nat):Int :=
 if h:k<ds.length then(if ds[k].name.toList == s then(k:Int)else findFrom ds s (k+1))else -1
termination_by ds.length-k
theorem cY{ds:List Dv}{s:List UInt8}{k:Nat}{d:Dv}(h:ds[k]?=some d):findFrom ds s k=if d.name.toList == s then(k:Int)else findFrom ds s (k+1):=by
 obtain⟨hk,e⟩:=List.getElem?_eq_some_iff.1 h;rw[findFrom,dif_pos hk,e]
theorem fN{ds:List Dv}{s:List UInt8}{k:Nat}(h:ds.length<=k):findFrom ds s k=-1:=by rw[findFrom,dif_neg (by omega)]
theorem lB(ds:List Dv)(s:List UInt8):∀(m k:Nat),ds.length-k<=m->decide (0<=findFrom ds s k)=(ds.drop k).any (λx=>x.name.toList == s)
 | 0,k,h=>by rw[fN (by omega),List.drop_eq_nil_of_le (by omega)];rfl
 | m+1,k,h=>by
   by_cases hk:k<ds.length
   ·rw[cY (List.getElem?_eq_getElem hk),List.drop_eq_getElem_cons hk,List.any_cons,<- lB ds s m (k+1) (by omega)];cases e:(ds[k].name.toList == s)
    ·simp
    ·simp
   ·rw[fN (by omega),List.drop_eq_nil_of_le (by omega)];rfl
theorem uo(ds:List Dv)(s:List UInt8):decide (0<=findFrom ds s 0)=ds.any (λx=>x.name.toList == s):=lB ds s ds.length 0 (by omega)
theorem Devs.at{b9:Nat}{w:World}{A:Option Addr}{n cap:Nat}{ds:List Dv}(h:Devs b9 w (.slice A n cap) ds){k:Nat}{d:Dv}(hk:ds[k]?=some d) :
  ∃b o vb vr vt,A=some ⟨b,o,none⟩/\b<b9/\SlAt b9 w 1 IsI vb d.backs/\SlAt b9 w 5 A9 vr d.rules/\SlAt b9 w 3 C7 vt d.routes /\
    w.cell? ⟨b,o+k*7,none⟩=some (.string d.name)/\w.cell? ⟨b,o+k*7+1,none⟩=some (.int .i64 d.kind)/\w.cell? ⟨b,o+k*7+2,none⟩=some (.int .i64 d.addr)/\w.cell? ⟨b,o+k*7+3,none⟩=some (.int .u8 (d.pool:Int))/\w.cell? ⟨b,o+k*7+4,none⟩=some vb/\w.cell? ⟨b,o+k*7+5,none⟩=some vr/\w.cell? ⟨b,o+k*7+6,none⟩=some vt:=by
 obtain⟨A',d8,e,_,_,_,h3⟩:=h;cases e;obtain⟨b,o,ea,hl,hr⟩:=h3 (λe=>by subst e;simp at hk);obtain⟨cs,_,⟨vb,vr,vt,rfl,s1,s2,s3⟩,hc⟩:=hr k d hk;exact⟨b,o,vb,vr,vt,ea,hl,s1,s2,s3,hc 0 _ rfl,hc 1 _ rfl,hc 2 _ rfl,hc 3 _ rfl,hc 4 _ rfl,hc 5 _ rfl,hc 6 _ rfl⟩
theorem Devs.len{b9:Nat}{w:World}{A:Option Addr}{n cap:Nat}{ds:List Dv}(h:Devs b9 w (.slice A n cap) ds):n=ds.length/\n<=cap/\cap<=maxLen:=by
 obtain⟨A',d8,e,_,h1,h2,_⟩:=h;cases e;exact⟨rfl,h1,h2⟩
theorem SlAt.take{α:Type}{b9:Nat}{w:World}{n:Nat}{R:List Value->α->Prop}{A:Option Addr}{m cap:Nat}{xs:List α}(h:SlAt b9 w n R (.slice A m cap) xs)(k:Nat)(hk:k<=xs.length):SlAt b9 w n R (.slice A k cap) (xs.take k):=by
 obtain⟨A',d8,e,h0,h1,h2,h3⟩:=h;cases e;refine⟨A,cap,by rw[List.length_take,Nat.min_eq_left hk],h0,by rw[List.length_take];omega,h2,λhn=>?_⟩;obtain⟨b,o,ea,hl,hr⟩:=h3 (λe=>hn (by rw[e,List.take_nil]));refine⟨b,o,ea,hl,λj x hx=>hr j x ?_⟩;rw[List.getElem?_take]at hx
 split at hx
 ·exact hx
 ·cases hx
theorem uq(nm s:ByteArray)(k ad:Int)(pl:Nat)(vb vr vt:Value)(n0:Nat)(w:World)(hn:n0<w.heap.size)(hc:w.cell? ⟨n0,0,none⟩=some (.string s)) :
  Calls prog 163 #[F9 nm k ad pl vb vr vt,.pointer (some ⟨n0,0,none⟩)] w λe w'=>e=.returned (.bool (nm.toList == s.toList))/\Below w.heap.size w w':=by
 have D0:=Below.alN (Below.refl w.heap.size w) (.cells #[.string nm,.int .i64 k,.int .i64 ad,.int .u8 (pl:Int),vb,vr,vt] 56);have c1:(w.alloc (.cells #[.string nm,.int .i64 k,.int .i64 ad,.int .u8 (pl:Int),vb,vr,vt] 56)).cell? ⟨n0,0,none⟩=some (.string s):=(D0.cell (p:=⟨n0,0,none⟩) hn).trans hc;go_enter func163,ntmps163;go_wp2_with fail;go_ret;exact⟨rfl,D0⟩
theorem ur(A:Option Addr)(n cap:Nat)(ds:List Dv)(s:ByteArray)(n0:Nat)(w:World)(hD:Hid (Devs w.heap.size w (.slice A n cap) ds))(hn0:n0<w.heap.size)(hc0:Hid (w.cell? ⟨n0,0,none⟩=some (.string s))) :
  Calls prog 107 #[.slice A n cap,.func (.func 163) #[] #[.pointer (some ⟨n0,0,none⟩)]] w λe w'=>e=.returned (.int .i64 (findFrom ds s.toList 0))/\Below w.heap.size w w':=by
 obtain⟨rfl,hc,hm⟩:=hD.out.len;unfold maxLen at hm;generalize hres:findFrom ds s.toList 0=res;have HR:Hid (findFrom ds s.toList 0=res):=hres;clear hres;go_enter func107,ntmps107;go_wp2_with fail;go_loopw[8] (λi wr=>∃k:Nat,i=.int .i64 (k:Int)/\k<=ds.length/\Below w.heap.size w wr/\Hid (findFrom ds s.toList k=res)) (λi _=>ds.length-(intOf i).toNat)
 case atStart=>exact⟨0,rfl,by omega,Below.refl _ _,HR⟩
 case round =>
  obtain⟨k,rfl,hk,D1,hno⟩:=hrel;by_cases hlt:k<ds.length
  ·obtain⟨d,hxk⟩:∃d,ds[k]?=some d:=⟨_,List.getElem?_eq_getElem hlt⟩;obtain⟨b,o,vb,vr,vt,rfl,hb,_,_,_,c0,c1,c2,c3,c4,c5,c6⟩:=(hD.out.below D1).at hxk;have PR:Hid (Calls prog 163 #[F9 d.name d.kind d.addr d.pool vb vr vt,.pointer (some ⟨n0,0,none⟩)] wr λe w'=>e=.returned (.bool (d.name.toList == s.toList))/\Below wr.heap.size wr w'):=uq d.name s d.kind d.addr d.pool vb vr vt n0 wr (Nat.lt_of_lt_of_le hn0 D1.size) ((D1.cell (p:=⟨n0,0,none⟩) hn0).trans hc0.out);have HF:Hid (findFrom ds s.toList k=if d.name.toList == s.toList then(k:Int)else findFrom ds s.toList (k+1)):=cY hxk;have k1:(0:Int)<=(k:Int):=by omega
   have k2:(k:Int)<(ds.length:Int):=by omega
   clear hxk hD HR hc0;generalize (d.name.toList == s.toList)=x at *;generalize d.name=nm at *;generalize d.kind=kd at *;generalize d.addr=ad at *;generalize d.pool=pl at *;cases x
   ·have HV:Hid (findFrom ds s.toList (k+1)=res):=by
     show _=_;rw[<- hno.out,HF.out];simp
    clear HF hno;go_wp2_with fail;refine PR.out.mono ?_;rintro e w2⟨rfl,hb2⟩;have D2:=f7 hb2 D1;clear hb2 D1 c0 c1 c2 c3 c4 c5 c6 PR;go_wp2_with fail;go_roundw
    case rel=>exact⟨k+1,by go_num,by omega,D2,HV⟩
    case measure=>simp[intOf];omega
   ·have HV:Hid (res=(k:Int)):=by
     show _=_;rw[<- hno.out,HF.out];simp
    clear HF hno;go_wp2_with fail;refine PR.out.mono ?_;rintro e w2⟨rfl,hb2⟩;have D2:=f7 hb2 D1;clear hb2 D1 c0 c1 c2 c3 c4 c5 c6 PR;go_wp2_with fail;go_ret;exact⟨by rw[HV.out];rfl,D2⟩
  ·have HV:Hid (res=-1):=by
    show _=_;rw[<- hno.out,fN (by omega)]
   go_wp2_with fail;go_ret;exact⟨by rw[HV.out];rfl,D1⟩
theorem ut(A:Option Addr)(n cap:Nat)(ds:List Dv)(s:ByteArray)(w:World)(hD:Devs w.heap.size w (.slice A n cap) ds) :
  Calls prog 112 #[.slice A n cap,.string s] w λe w'=>e=.returned (.tuple #[.int .i64 (if 0<=findFrom ds s.toList 0 then findFrom ds s.toList 0 else 0),.bool (decide (0<=findFrom ds s.toList 0))])/\Below w.heap.size w w':=by
 have D0:=Below.alN (Below.refl w.heap.size w) (.cells #[.string s] 9);have FI:Hid (Calls prog 107 #[.slice A n cap,.func (.func 163) #[] #[.pointer (some ⟨w.heap.size,0,none⟩)]] (w.alloc (.cells #[.string s] 9)) λe w'=>e=.returned (.int .i64 (findFrom ds s.toList 0))/\Below (w.alloc (.cells #[.string s] 9)).heap.size (w.alloc (.cells #[.string s] 9)) w'):=ur A n cap ds s w.heap.size _ ((hD.below D0).mono D0.size) (by simp) (by show _=_;simp[go_sem]);clear hD;generalize findFrom ds s.toList 0=j at *;cases h:decide (0<=j)
 ·have h1:¬ 0<=j:=by simpa using h
  have h2:j<0:=by omega
  rw[if_neg h1];go_enter func112,ntmps112;go_wp2_with fail;refine FI.out.mono ?_;rintro e w1⟨rfl,hb1⟩;have D1:=f7 hb1 D0;go_wp2_with fail;go_ret2;exact⟨by simp,D1⟩
 ·have h1:0<=j:=by simpa using h
  rw[if_pos h1];go_enter func112,ntmps112;go_wp2_with fail;refine FI.out.mono ?_;rintro e w1⟨rfl,hb1⟩;have D1:=f7 hb1 D0;go_wp2_with fail;go_ret2;exact⟨by simp,D1⟩
abbrev st(b n:Int):Value:=.agg #[.int .i64 b,.int .i64 n]
abbrev mt(a b c d:Nat):Value:=.agg #[.int .u16 (a:Int),.int .u16 (b:Int),.int .u8 (c:Int),.int .u8 (d:Int)]
abbrev pk(a b c d:Int):Value:=.agg #[.int .i64 a,.int .i64 b,.int .i64 c,.int .i64 d]
def p7(b:Nat)(n:Int):Bool:=decide (0<=n)&&b.testBit n.toNat
theorem g8{W0 W w':World}(hb:Below W.heap.size W w')(h:Below W0.heap.size W0 W):Below W0.heap.size W0 w':=h.trans (hb.mono h.size)
theorem Below.alloc'{W0 w:World}(h:Below W0.heap.size W0 w)(o:Obj):Below W0.heap.size W0 (w.alloc o):=h.alloc h.size o
def cZ(w:World)(n:Nat)(a b c d:Value):Prop :=
 n<w.heap.size/\w.cell? ⟨n,0,none⟩=some a/\w.cell? ⟨n,1,none⟩=some b/\w.cell? ⟨n,2,none⟩=some c/\w.cell? ⟨n,3,none⟩=some d
theorem lC{W w':World}{n:Nat}{a b c d:Value}(hb:Below W.heap.size W w')(h:cZ W n a b c d):cZ w' n a b c d:=by
 obtain⟨h0,h1,h2,h3,h4⟩:=h;exact⟨Nat.lt_of_lt_of_le h0 hb.size,(hb.cell (p:=⟨n,0,none⟩) h0).trans h1,(hb.cell (p:=⟨n,1,none⟩) h0).trans h2,(hb.cell (p:=⟨n,2,none⟩) h0).trans h3,(hb.cell (p:=⟨n,3,none⟩) h0).trans h4⟩
theorem lD(w:World)(a b c d:Value)(t:TypeId):cZ (w.alloc (.cells #[a,b,c,d] t)) w.heap.size a b c d :=
 ⟨by simp,by simp[go_sem],by simp[go_sem],by simp[go_sem],by simp[go_sem]⟩
theorem lE(b:Nat)(w:World)(h1:b<65536) :
  Calls prog 128 #[.int .u16 (b:Int)] w λe w'=>e=.returned (st b 16)/\Below w.heap.size w w':=by
 go_enter func128,ntmps128;go_wp2_with fail;exact bodyPost_ret (v:=st b 16) (by simp[results,results128,go_sem]) rfl ⟨rfl,by go_grown⟩
theorem lH(b:Nat)(w:World)(h1:b<256) :
  Calls prog 126 #[.int .u8 (b:Int)] w λe w'=>e=.returned (st b 8)/\Below w.heap.size w w':=by
 go_enter func126,ntmps126;go_wp2_with fail;exact bodyPost_ret (v:=st b 8) (by simp[results,results126,go_sem]) rfl ⟨rfl,by go_grown⟩
theorem uu(b n:Nat)(hb:b<2 ^ 62):Op.shift .shr .i64 (b:Int) .i64 (n:Int)=(pure (.int .i64 ((b >>> n:Nat):Int)):Sem Value):=by
 by_cases h:n<=64
 ·rw[shift_shr _ _ _ _ (by omega) (by show(n:Int)<=64;omega),Nat.shiftRight_eq_div_pow,Int.toNat_natCast];simp
 ·have hp:2 ^ 64<=2 ^ n:=Nat.pow_le_pow_right (by omega) (by omega);have e:b >>> n=0:=by rw[Nat.shiftRight_eq_div_pow,Nat.div_eq_of_lt (by omega)]
  have hm:min n IntKind.i64.bits=64:=by show min n 64=64;omega
  have hf:(b:Int).fdiv (2 ^ 64)=0:=by
   rw[Int.fdiv_eq_ediv_of_nonneg _ (by decide),Int.ediv_eq_zero_of_lt (by omega) (by omega)]
  rw[e];simp only[Op.shift,Int.toNat_natCast,hm,hf];rw[if_neg (by omega)];rfl
theorem uv(q:Nat)(hq:q<2 ^ 62):(Go.bits .and .i64 (q:Int) 1 == 1)=(q % 2 == 1):=by
 have e1:BitVec.ofInt 64 (q:Int)=BitVec.ofNat 64 q:=by simp
 have hm:(BitVec.ofNat 64 q &&& BitVec.ofInt 64 1).toNat=q % 2:=by
  rw[show BitVec.ofInt 64 1=BitVec.ofNat 64 1 by rfl,BitVec.toNat_and,BitVec.toNat_ofNat,BitVec.toNat_ofNat,Nat.mod_eq_of_lt (show q<2 ^ 64 by omega)];exact Nat.and_one_is_mod q
 have e2:Go.bits .and .i64 (q:Int) 1=((q % 2:Nat):Int):=by
  show IntKind.i64.wrap ((BitVec.ofInt 64 (q:Int) &&& BitVec.ofInt 64 1).toNat:Int)=_;rw[e1,hm,IntWalk.i64_in _ (by omega)]
 rw[e2];have:q % 2=0\/q % 2=1:=by omega
 rcases this with h|h <;> rw[h] <;> rfl
theorem uw(b:Nat)(n z:Int)(w:World)(h1:b<65536) :
  Calls prog 171 #[st b z,.int .i64 n] w λe w'=>e=.returned (.bool (p7 b n))/\Below w.heap.size w w':=by
 by_cases hn:0<=n
 ·obtain⟨k,rfl⟩:∃k:Nat,n=k:=⟨n.toNat,by omega⟩;have t:decide (0<=(k:Int))=true:=by simp
  have hs:=uu b k (by omega);have hle:b >>> k<=b:=by rw[Nat.shiftRight_eq_div_pow];exact Nat.div_le_self _ _
  have he:Hid ((Go.bits .and .i64 ((b >>> k:Nat):Int) 1 == 1)=p7 b k):=by
   show _=_;rw[uv _ (by omega),p7,t,Bool.true_and,Int.toNat_natCast,Nat.testBit,Nat.one_and_eq_mod_two];have:(b >>> k) % 2=0\/(b >>> k) % 2=1:=by omega
   rcases this with h|h <;> rw[h] <;> rfl
  clear hn hle;generalize b >>> k=q at *;go_enter func171,ntmps171;go_wp2_with fail;go_ret;refine⟨?_,by go_grown⟩;rw[<- he.out];simp
 ·have t:decide (0<=n)=false:=by simp;omega
  have e:p7 b n=false:=by unfold p7;rw[t,Bool.false_and]
  rw[e];go_enter func171,ntmps171;go_wp2_with fail;go_ret;exact⟨rfl,by go_grown⟩
def inB(a b c d:Nat)(p q r s:Int):Bool:=p7 a p&&p7 b q&&p7 c r&&p7 d s
structure Rl where
 ok:Bool
 a:Nat
 b:Nat
 c:Nat
 d:Nat
 ha:a<65536
 hb:b<65536
 hc:c<256
 hd:d<256
def inR(r:Rl)(p q s t:Int):Bool:=inB r.a r.b r.c r.d p q s t
def O2:List Rl->Int->Int->Int->Int->Bool
 | [],_,_,_,_=>false
 | r::l,p,q,s,t=>if inR r p q s t then r.ok else O2 l p q s t
def allR(ok:Bool):Rl:=⟨ok,65535,65535,255,255,by omega,by omega,by omega,by omega⟩
abbrev lI(r:Rl):List Value:=[.bool r.ok,.int .u16 (r.a:Int),.int .u16 (r.b:Int),.int .u8 (r.c:Int),.int .u8 (r.d:Int)]
abbrev rv(r:Rl):Value:=.agg #[.bool r.ok,.int .u16 (r.a:Int),.int .u16 (r.b:Int),.int .u8 (r.c:Int),.int .u8 (r.d:Int)]
def ae(xs:List Rl):List Value:=xs.flatMap λr=>lI r
theorem lJ(r:Rl)(l:List Rl):ae (r::l)=lI r++ae l:=rfl
theorem im:∀xs:List Rl,(ae xs).length=xs.length*5
 | []=>rfl
 | r::l=>by
   have:=im l;rw[lJ,List.length_append,this];simp;omega
theorem fO:∀(xs:List Rl) (k:Nat) (r:Rl),xs[k]?=some r ->
  (ae xs)[k*5]?=some (.bool r.ok)/\(ae xs)[k*5+1]?=some (.int .u16 (r.a:Int))/\(ae xs)[k*5+2]?=some (.int .u16 (r.b:Int))/\(ae xs)[k*5+3]?=some (.int .u8 (r.c:Int))/\(ae xs)[k*5+4]?=some (.int .u8 (r.d:Int))
 | [],k,r,h=>by simp at h
 | x::l,0,r,h=>by
   obtain rfl:x=r:=by simpa using h
   exact⟨rfl,rfl,rfl,rfl,rfl⟩
 | x::l,k+1,r,h=>by
   have ih:=fO l k r (by simpa using h);have sh:∀j,(ae (x::l))[(k+1)*5+j]?=(ae l)[k*5+j]?:=λj=>by
    rw[lJ,List.getElem?_append_right (by simp;omega)]
    congr 1
    simp;omega
   have s0:=sh 0;simp only[Nat.add_zero]at s0;rw[s0,sh 1,sh 2,sh 3,sh 4];exact ih
def RAt(w:World)(b o:Nat)(xs:List Rl):Prop:=∀j u,(ae xs)[j]?=some u->w.cell? ⟨b,o+j,none⟩=some u
def Rules(b9:Nat)(w:World)(v:Value)(xs:List Rl):Prop :=
 ∃A cap,v=.slice A xs.length cap/\(A=none->cap=0)/\xs.length<=cap/\cap<=maxLen/\(xs≠[]->∃b o,A=some ⟨b,o,none⟩/\b<b9/\RAt w b o xs)
theorem RAt.at{w:World}{b o:Nat}{xs:List Rl}(h:RAt w b o xs){k:Nat}{r:Rl}(hk:xs[k]?=some r) :
  w.cell? ⟨b,o+k*5,none⟩=some (.bool r.ok)/\w.cell? ⟨b,o+k*5+1,none⟩=some (.int .u16 (r.a:Int))/\w.cell? ⟨b,o+k*5+2,none⟩=some (.int .u16 (r.b:Int))/\w.cell? ⟨b,o+k*5+3,none⟩=some (.int .u8 (r.c:Int))/\w.cell? ⟨b,o+k*5+4,none⟩=some (.int .u8 (r.d:Int)):=by
 obtain⟨h0,h1,h2,h3,h4⟩:=fO xs k r hk;exact⟨h _ _ h0,h _ _ h1,h _ _ h2,h _ _ h3,h _ _ h4⟩
theorem RAt.below{b9:Nat}{w w':World}{b o:Nat}{xs:List Rl}(h:RAt w b o xs)(hb:Below b9 w w')(hl:b<b9):RAt w' b o xs :=
 λj u hj=>(hb.cell (p:=⟨b,_,none⟩) hl).trans (h j u hj)
theorem Rules.below{b9:Nat}{w w':World}{v:Value}{xs:List Rl}(h:Rules b9 w v xs)(hb:Below b9 w w'):Rules b9 w' v xs:=by
 obtain⟨A,cap,e,h0,h1,h2,h3⟩:=h;refine⟨A,cap,e,h0,h1,h2,λhn=>?_⟩;obtain⟨b,o,ea,hl,hr⟩:=h3 hn;exact⟨b,o,ea,hl,hr.below hb hl⟩
theorem Rules.mono{b9 base':Nat}{w:World}{v:Value}{xs:List Rl}(h:Rules b9 w v xs)(hb:b9<=base'):Rules base' w v xs:=by
 obtain⟨A,cap,e,h0,h1,h2,h3⟩:=h;refine⟨A,cap,e,h0,h1,h2,λhn=>?_⟩;obtain⟨b,o,ea,hl,hr⟩:=h3 hn;exact⟨b,o,ea,by omega,hr⟩
theorem ux{xs:List Rl}{k:Nat}{r:Rl}(h:xs[k]?=some r)(p q s t:Int):O2 (xs.drop k) p q s t=if inR r p q s t then r.ok else O2 (xs.drop (k+1)) p q s t:=by
 obtain⟨hk,e⟩:=List.getElem?_eq_some_iff.1 h;rw[List.drop_eq_getElem_cons hk,e];rfl
end Go.Proofs.YtppbfikimalojaaGreat
namespace Go.Proofs.YtppbfikimalojaaGreat
open Tryz
open Go.RowKit Go.Maps
def Bk(w:World)(k:Nat)(c:Array Value)(t:TypeId):Prop:=w.heap[k]?=some (.cells c t (0,0))
section
variable {w w':World}{k:Nat}{c:Array Value}{t:TypeId}
theorem Bk.lt(h:Bk w k c t):k<w.heap.size:=(Array.getElem?_eq_some_iff.1 h).1
theorem Bk.below{B:Nat}(h:Bk w k c t)(hb:Below B w w')(hk:k<B):Bk w' k c t:=(hb.block k hk).trans h
theorem Bk.keep(hb:Below w.heap.size w w')(h:Bk w k c t):Bk w' k c t:=h.below hb h.lt
theorem Bk.alloc(h:Bk w k c t)(o:Obj):Bk (w.alloc o) k c t:=h.below ((Below.refl _ _).alloc (Nat.le_refl _) o) h.lt
theorem Bk.drew(h:Bk w k c t):Bk w.drew k c t:=h
theorem i7(w:World)(c:Array Value)(t:TypeId):Bk (w.alloc (.cells c t)) w.heap.size c t:=by
 show(w.heap.push _)[w.heap.size]?=_;simp
theorem E0(w:World)(c:Array Value)(t:TypeId)(k:Nat)(h:k=w.heap.size):Bk (w.alloc (.cells c t)) k c t:=by rw[h];exact i7 w c t
theorem Bk.at(h:Bk w k c t)(j:Nat):w.cell? ⟨k,j,none⟩=c[j]?:=cell_of_row w k j _ _ _ h
theorem Bk.fz(h:Bk w k c t)(j:Nat):w.frozen? ⟨k,j,none⟩=false:=by
 unfold Bk at h;simp[World.frozen?,h]
end
structure Put(k:Nat)(w w':World):Prop where
 os:w'.os=w.os
 tape:w'.tape=w.tape
 output:w'.output=w.output
 size:w'.heap.size=w.heap.size
 block:∀b,b≠k->w'.heap[b]?=w.heap[b]?
theorem Bk.setO{w:World}{k b j:Nat}{c:Array Value}{t:TypeId}(h:Bk w k c t)(hne:k≠b)(u:Value):Bk (w.setCell ⟨b,j,none⟩ u) k c t:=(Below.heap_setCell w ⟨b,j,none⟩ u k hne).trans h
theorem Bk.setS{w:World}{k j:Nat}{c:Array Value}{t:TypeId}(h:Bk w k c t)(u:Value):Bk (w.setCell ⟨k,j,none⟩ u) k (c.setIfInBounds j u) t:=by
 unfold Bk at *;simp[World.setCell,Array.getElem?_modify,h]
theorem Bk.four{w:World}{k:Nat}{t:TypeId}{a b c d:Value}(h:Bk w k #[a,b,c,d] t):w.cell? ⟨k,0,none⟩=some a/\w.cell? ⟨k,1,none⟩=some b/\w.cell? ⟨k,2,none⟩=some c/\w.cell? ⟨k,3,none⟩=some d/\w.frozen? ⟨k,0,none⟩=false/\w.frozen? ⟨k,1,none⟩=false/\w.frozen? ⟨k,2,none⟩=false/\w.frozen? ⟨k,3,none⟩=false:=⟨h.at 0,h.at 1,h.at 2,h.at 3,h.fz 0,h.fz 1,h.fz 2,h.fz 3⟩
theorem Bk.one{w:World}{k:Nat}{t:TypeId}{a:Value}(h:Bk w k #[a] t):w.cell? ⟨k,0,none⟩=some a/\w.frozen? ⟨k,0,none⟩=false:=⟨h.at 0,h.fz 0⟩
theorem Bk.two{w:World}{k:Nat}{t:TypeId}{a b:Value}(h:Bk w k #[a,b] t):w.cell? ⟨k,0,none⟩=some a/\w.cell? ⟨k,1,none⟩=some b:=⟨h.at 0,h.at 1⟩
theorem lK:∀(n:Nat) (l:List Nat),l.Nodup->(∀x∈l,x<n)->l.length<=n
 | 0,l,_,h=>by
   cases l with
   | nil=>simp
   | cons a l=>exact absurd (h a (by simp)) (by omega)
 | n+1,l,hn,h=>by
   have h1:=lK n (l.erase n) (hn.erase n) (λx hx=>by
    have:=(List.Nodup.mem_erase_iff hn).1 hx;have:=h x this.2;omega)
   by_cases hm:n∈l
   ·rw[List.length_erase_of_mem hm]at h1;omega
   ·rw[List.erase_of_not_mem hm]at h1;omega
end Go.Proofs.YtppbfikimalojaaGreat
namespace Go.Proofs.YtppbfikimalojaaGreat
open Tryz
open Go.RowKit
def addFo(f:List Int):Option (Int × Int)->List Int
 | none=>f
 | some x=>if f.any (λy=>y == x.1)then f else f++[x.1]
def O4(ls:List Lk)(d:Int):Nat->List Int->List Int
 | 0,f=>f
 | k+1,f=>addFo (O4 ls d k f) (peerF ls d (k:Int))
def aroundF(ds:List Dv)(ls:List Lk):Nat->Nat->List Int->List Int
 | 0,_,f=>f
 | n+1,i,f=>match f[i]? with
   | none=>f
   | some d=>aroundF ds ls n (i+1) (O4 ls d (portsV (k9 ds d)).toNat f)
structure FOk(ds:List Dv)(f:List Int):Prop where
 nd:f.Nodup
 lt:∀x∈f,0<=x/\x<(ds.length:Int)
section
variable {ds:List Dv}{ls:List Lk}{f:List Int}
theorem FOk.len(h:FOk ds f):f.length<=ds.length:=by
 have h1:(f.map Int.toNat).Nodup:=by
  rw[List.Nodup,List.pairwise_map];exact h.nd.imp_of_mem λ{a b} ha hb hne e=>hne (by have:=(h.lt a ha).1;have:=(h.lt b hb).1;omega)
 have:=lK ds.length (f.map Int.toNat) h1 λx hx=>by
  obtain⟨y,hy,rfl⟩:=List.mem_map.1 hx;have:=h.lt y hy;omega
 simpa using this
theorem FOk.one{k:Nat}(hk:k<ds.length):FOk ds [(k:Int)]:=⟨by simp,λx hx=>by
 rw[List.mem_singleton.1 hx];omega⟩
theorem FOk.add(h:FOk ds f){x:Int}(hx:0<=x/\x<(ds.length:Int))(hn:f.any (λy=>y == x)=false):FOk ds (f++[x]):=by
 refine⟨List.nodup_append.2 ⟨h.nd,by simp,λa ha b hb e=>?_⟩,λy hy=>?_⟩
 ·rw[List.mem_singleton.1 hb]at e;subst e;have:=List.any_eq_false.1 hn a ha;simp at this
 ·rcases List.mem_append.1 hy with h1|h1
  ·exact h.lt y h1
  ·rw[List.mem_singleton.1 h1];exact hx
theorem lL(hz:netV ds ls=0){i q:Int}{t:Int × Int}(h:peerF ls i q=some t):0<=t.1/\t.1<(ds.length:Int):=by
 obtain⟨l,hl,he⟩:=aN h;obtain⟨h10,_,_,hp⟩:=l7 hz;have hpl:isPl ds t.1 t.2=true:=by
  rcases ac he with⟨_,rfl⟩|⟨_,rfl⟩
  ·exact(hp l hl).2
  ·exact(hp l hl).1
 unfold isPl at hpl;simp only[Bool.and_eq_true,decide_eq_true_eq]at hpl;exact⟨hpl.1.1.1,hpl.1.1.2⟩
theorem FOk.addFo(hz:netV ds ls=0)(h:FOk ds f)(i q:Int):FOk ds (addFo f (peerF ls i q)):=by
 cases hp:peerF ls i q with
 | none=>exact h
 | some t =>
   cases ha:f.any (λy=>y == t.1)with
   | true=>simpa[YtppbfikimalojaaGreat.addFo,ha]using h
   | false=>simpa[YtppbfikimalojaaGreat.addFo,ha]using h.add (lL hz hp) ha
theorem FOk.portsF(hz:netV ds ls=0)(d:Int):∀(k:Nat),FOk ds f->FOk ds (O4 ls d k f)
 | 0,h=>h
 | k+1,h=>FOk.addFo hz (FOk.portsF hz d k h) d (k:Int)
theorem uy(f:List Int)(t:Option (Int × Int)):f.length<=(addFo f t).length:=by
 cases t with
 | none=>exact Nat.le_refl _
 | some x =>
   unfold YtppbfikimalojaaGreat.addFo;simp only
   split
   ·exact Nat.le_refl _
   ·simp
theorem ip(d:Int):∀(k:Nat) (f:List Int),f.length<=(O4 ls d k f).length
 | 0,_=>Nat.le_refl _
 | k+1,f=>Nat.le_trans (ip d k f) (uy _ _)
theorem uz{n i:Nat}(h:f.length<=i):aroundF ds ls n i f=f:=by
 cases n with
 | zero=>rfl
 | succ n=>simp[aroundF,List.getElem?_eq_none h]
theorem uA{n i:Nat}{d:Int}(h:f[i]?=some d):aroundF ds ls (n+1) i f=aroundF ds ls n (i+1) (O4 ls d (portsV (k9 ds d)).toNat f):=by
 simp[aroundF,h]
theorem FOk.aroundF(hz:netV ds ls=0):∀(n i:Nat) (f:List Int),FOk ds f->FOk ds (aroundF ds ls n i f)
 | 0,_,_,h=>h
 | n+1,i,f,h=>by
   unfold YtppbfikimalojaaGreat.aroundF
   split
   ·exact h
   ·exact FOk.aroundF hz n _ _ (FOk.portsF hz _ _ h)
def wholeF(ds:List Dv)(ls:List Lk)(s:Int):List Int:=(aroundF ds ls 10 0 [s]).mergeSort λx y=>decide (x<=y)
theorem FOk.sort(h:FOk ds f):FOk ds (f.mergeSort λx y=>decide (x<=y)) :=
 ⟨(List.mergeSort_perm f _).nodup_iff.2 h.nd,λx hx=>h.lt x ((List.mergeSort_perm f _).mem_iff.1 hx)⟩
theorem FOk.whole(hz:netV ds ls=0){k:Nat}(hk:k<ds.length):FOk ds (wholeF ds ls (k:Int)):=(FOk.aroundF hz 10 0 _ (FOk.one hk)).sort
theorem dS(f:List Int):(f.mergeSort λx y=>decide (x<=y)).Pairwise (· <= ·):=by
 have:=List.pairwise_mergeSort (le:=λx y:Int=>decide (x<=y)) (λa b c h1 h2=>by simp only[decide_eq_true_eq]at *;omega) (λa b=>by simp only[Bool.or_eq_true,decide_eq_true_eq];omega) f;exact this.imp λh=>by simpa using h
def az(f:List Int)(l:Lk):List Lk:=if f.contains l.a then [⟨(f.countP (·<l.a):Nat),l.p,(f.countP (·<l.b):Nat),l.q⟩]else []
def e8(ds:List Dv)(f:List Int):List Dv:=f.flatMap λi=>(ds[i.toNat]?).toList
def e9(ls:List Lk)(f:List Int):List Lk:=ls.flatMap (az f)
theorem fP:∀(f:List Int),(∀x∈f,0<=x/\x<(ds.length:Int))->(e8 ds f).length=f.length
 | [],_=>rfl
 | x::f,h=>by
   have h1:=fP f λy hy=>h y (List.mem_cons_of_mem _ hy);have h2:=h x List.mem_cons_self;unfold e8 at h1 ⊢;rw[List.flatMap_cons,List.length_append,h1,List.getElem?_eq_getElem (by omega),List.length_cons];simp;omega
theorem lN(h:FOk ds f)(k:Nat):(e8 ds (f.take k)).length=(f.take k).length:=fP _ λx hx=>h.lt x (List.mem_of_mem_take hx)
theorem lO{x:Int}{d:Dv}(f:List Int)(h:ds[x.toNat]?=some d):e8 ds (f++[x])=e8 ds f++[d]:=by simp[e8,h]
theorem iq:∀d∈e8 ds f,d∈ds:=λd hd=>by
 obtain⟨i,_,h⟩:=List.mem_flatMap.1 hd;cases e:ds[i.toNat]? with
 | none=>rw[e]at h;cases h
 | some x=>rw[e]at h;rw[List.mem_singleton.1 h];exact List.mem_of_getElem? e
theorem dT:∀(ls:List Lk),(e9 ls f).length<=ls.length
 | []=>Nat.le_refl _
 | l::ls=>by
   have:=dT ls;unfold e9 at this ⊢;rw[List.flatMap_cons,List.length_append,List.length_cons];have:(az f l).length<=1:=by
    unfold az
    split <;> simp
   omega
end
def hostFrom(ds:List Dv)(s:List UInt8)(k:Nat):Int :=
 if h:k<ds.length then(if(ds[k].kind == 1)&&(ds[k].name.toList == s)then(k:Int)else hostFrom ds s (k+1))else -1
termination_by ds.length-k
theorem fQ{ds:List Dv}{s:List UInt8}{k:Nat}{d:Dv}(h:ds[k]?=some d):hostFrom ds s k=if(d.kind == 1)&&(d.name.toList == s)then(k:Int)else hostFrom ds s (k+1):=by
 obtain⟨hk,e⟩:=List.getElem?_eq_some_iff.1 h;rw[hostFrom,dif_pos hk,e]
theorem de{ds:List Dv}{s:List UInt8}{k:Nat}(h:ds.length<=k):hostFrom ds s k=-1:=by rw[hostFrom,dif_neg (by omega)]
theorem fR(ds:List Dv)(s:List UInt8):∀(m k:Nat),ds.length-k<=m->hostFrom ds s k<0\/∃j:Nat,hostFrom ds s k=(j:Int)/\j<ds.length
 | 0,k,h=>by rw[de (by omega)];omega
 | m+1,k,h=>by
   by_cases hk:k<ds.length
   ·rw[fQ (List.getElem?_eq_getElem hk)]
    split
    ·exact Or.inr ⟨k,rfl,hk⟩
    ·exact fR ds s m (k+1) (by omega)
   ·rw[de (by omega)];omega
end Go.Proofs.YtppbfikimalojaaGreat
