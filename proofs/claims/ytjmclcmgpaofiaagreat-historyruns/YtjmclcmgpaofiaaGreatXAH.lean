/-
  XAH.
-/
import Derived.Test.YtjmclcmgpaofiaaGreatXLy
import Derived.Test.YtjmclcmgpaofiaaGreatXAG
import Derived.Maps.AppendAt
import Derived.Deep.Heap
import Derived.OneCell
import Derived.Deep.RegionHeldLaw
import Derived.Deep.RegionLaw
import Derived.Deep.RegionHeld3
import Derived.Test.YtjmclcmgpaofiaaGreatXAB
import Derived.RangeFuncNested
import Derived.RangeFuncBound
import Derived.RangeFuncCalls
import Derived.RangeFuncLeaves
import Derived.Shelf.Abstract
import Derived.Shelf.RegionOpen
import Derived.OwnWalkIn
import Derived.TacticsInMore
import Derived.LoopNIn
import Derived.LoopIn
set_option maxHeartbeats 8000000
set_option maxRecDepth 100000
namespace Go.Proofs.YtjmclcmgpaofiaaGreat
open Tryz
open Go.RowKit Go.Maps
structure KeptW(w w':World)(row:Option Nat):Prop where
 size:w.heap.size<=w'.heap.size
 block:∀k,k<w.heap.size->some k≠row->w'.heap[k]?=w.heap[k]?
theorem KeptW.of_below{w w':World}(h:Below w w w'):KeptW w w' none:=⟨h.size,λk hk _=>h.block k hk⟩
section
variable {w w':World}{B e size n:Nat}{v:Value}{xs:List Value}{row:Option Nat}
theorem gY(h:w.ownsRow B e size v n xs){g:Nat}(hg:v.ownBlock=some g):g<w.heap.size /\ B<=g /\ ∃cur,w.heap[g]?=some (.cells cur e (0,0)):=by
 rcases h.2 with⟨rfl,_⟩|⟨g',cap,cur,rfl,hb,hh,_⟩
 ·cases hg
 ·obtain rfl:g'=g:=by simpa[Value.ownBlock]using hg
  exact⟨(Array.getElem?_eq_some_iff.1 hh).1,hb,cur,hh⟩
theorem dF(h:w.ownsRow B e size v n xs)(hk:∀g,v.ownBlock=some g->w'.heap[g]?=w.heap[g]?):w'.ownsRow B e size v n xs:=by
 refine⟨h.1,?_⟩;rcases h.2 with k|⟨g,cap,cur,h1,h2,h3,h4⟩
 ·exact Or.inl k
 ·exact Or.inr ⟨g,cap,cur,h1,h2,(hk g (by rw[h1];rfl)).trans h3,h4⟩
theorem uJ(h:w.ownsRow B e size v n xs)(hk:KeptW w w' row)(hr:∀g,v.ownBlock=some g->row≠some g):w'.ownsRow B e size v n xs :=
 dF h (λg hg=>hk.block g (gY h hg).1 (λe=>hr g hg e.symm))
theorem uK(h:w.ownsRow B e size v n xs)(hb:Below w w w'):w'.ownsRow B e size v n xs:=dF h (λg hg=>hb.block g (gY h hg).1)
theorem nB(h:w.ownsRow B e size v n xs)(hc:CK w w'):w'.ownsRow B e size v n xs:=dF h (λg hg=>by
 obtain⟨h1,_,cur,h2⟩:=gY h hg;exact hc.block g (λes c e=>by rw[h2]at e;cases e) h1)
end
theorem uL{t e:TypeId}{z:Value}{size bytes:Nat}(hu:prog.underlying t=some (.slice e))(hinfo:(prog.info? e).map (λi=>(i.zero,i.size,i.bytes))=some (some z,size,bytes))(hz1:z.cells.size=size)(hs0:0<size)(hby:bytes<=128)
  {a9 n:Nat} {w:World} {v:Value} {xs us:List Value} (ty:TypeId) (h:w.ownsRow a9 e size v n xs) (hus:us.length=size) (h1:∀u∈us,u.oneCell'=true) (hn:n<=5000) (hb:a9<=w.heap.size) :
  ∃v' w',(Builtin.append_ #[t,t] ty #[v,.slice (some ⟨w,0,none⟩) 1 1]).run prog (w.alloc (.cells us.toArray e))=.ok v' w' /\ w'.ownsRow a9 e size v' (n+1) (xs++us) /\ Below a9 w w' /\ KeptW w w' v.ownBlock /\ (v'.ownBlock=v.ownBlock\/∃g,v'.ownBlock=some g /\ w.heap.size<=g):=by
 obtain⟨i0,hi,hz0,hz1',hz2⟩:=info_parts hinfo;have hA:Below w w (w.alloc (.cells us.toArray e)):=(Below.refl _ _).alloc (Nat.le_refl _) _;have ho:(w.alloc (.cells us.toArray e)).ownsRow a9 e size v n xs:=uJ h (KeptW.of_below hA) (λg _=>by simp);obtain⟨v',w',hr,h4,h5,_,h7⟩:=run_append_own_at (P:=prog) (w.alloc (.cells us.toArray e)) a9 t ty e i0 z size bytes hu hi hz0 hz1' hz2 hz1 hs0 v n xs ho ⟨w,0,none⟩ 1 1 us (by rw[hus,Nat.one_mul]) (λj x hj=>by
  have hg:(w.alloc (.cells us.toArray e)).heap[w.heap.size]?=some (.cells us.toArray e):=Go.Deep.blk_alloc_new w _;rw[Addr.add_lit,Nat.zero_add];simp only[World.cell?,hg];simp[hj]) h1 (by unfold maxLen;omega) (by
   have:(n+1)*bytes<=5001*128:=Nat.mul_le_mul (by omega) hby;omega) (by simp;omega)
 have hsz:(w.alloc (.cells us.toArray e)).heap.size=w.heap.size+1:=Go.Deep.nblk_alloc w _;refine⟨v',w',hr,h4,?_,⟨by have:=h5.size;omega,λk hk hne=>?_⟩,?_⟩
 ·exact((Below.refl a9 w).alloc hb (.cells us.toArray e)).grown h5 (by simp;omega) (λk e=>(ho.lt k e).1)
 ·rw[h5.block k (by omega) hne,Go.Deep.blk_alloc_lt w _ k hk]
 ·rcases h7 with h7|h7
  ·exact Or.inl h7
  ·exact Or.inr ⟨_,h7,by omega⟩
theorem nC{P:Program}{w:World}{ops:Array Oper}{o:Oper}{a:Act}{K:Act->World->Prop}{Q:Exit->Act->World->Prop}{E:Prop}(hgd:o.guard=none)(s x:Operand)(t:TypeId)
  (ho:o.op=.call { callee:=.builtin .append,args:=#[s,x],argTypes:=#[t,t] }) (v u v':Value) (w':World) (hs:a.eval s=v) (hx:a.eval x=u)
  (hr:(Builtin.append_ #[t,t] o.type #[v,u]).run P w=.ok v' w') (h:K (a.put o.dst v') w') :
  if Region.wanted o (yielded ops a.tmps)=true then Oper.wp P o a w K Q else E:=by
 have hw:Region.wanted o (yielded ops a.tmps)=true:=by simp[Region.wanted,hgd]
 rw[if_pos hw];unfold Oper.wp execOp;simp only[ho,resolve,invoke,builtin,Sem.run_bind,Sem.run_pure,Result.andThen_ok,List.map_toArray,List.map_cons,List.map_nil,hs,hx,hr];exact h
abbrev Arv:=(Int × Int) × Pk
def cK(x:Arv):Prop:=aj x.1.1 /\ aj x.1.2 /\ x.2.ok
abbrev arC(x:Arv):List Value:=[.int .i64 x.1.1,.int .i64 x.1.2,.int .i64 x.2.s,.int .i64 x.2.d,.int .i64 x.2.sp,.int .i64 x.2.dp]
theorem uM(x y:Arv)(h:arV x.1 x.2=arV y.1 y.2):x=y:=by
 obtain⟨⟨a,b⟩,c,d,e,f⟩:=x;obtain⟨⟨a',b'⟩,c',d',e',f'⟩:=y;simp at h;obtain⟨rfl,rfl,rfl,rfl,rfl,rfl⟩:=h;rfl
theorem lawAr:Keyed prog 59:=Keyed.of_law (deep_law_gate (k:=59) lL (by rw[fN];decide) (by rw[fN];decide) (by kernel_rfl) (by kernel_rfl))
theorem cPlc:prog.cellsOf 27=2:=by kernel_rfl
theorem keyAr(n:Arv)(h:cK n):keyOf prog 59 (arV n.1 n.2)=some (eP 59 (arV n.1 n.2)):=by
 obtain⟨w0,w1,⟨w2,w3,w4,w5⟩⟩:=h;unfold aj at w0 w1 w2 w3 w4 w5;obtain⟨m,hm⟩:=lP;refine lO ?_;unfold keyOf;simp only[underlying59];rw[if_pos (by kernel_rfl),hm];unfold Program.keyLits;simp only[underlying59,Value.cells];rw[if_pos ⟨by kernel_rfl,by kernel_rfl⟩];have hi:prog.keyLits (m+2) 27 [.int .i64 n.1.1,.int .i64 n.1.2]=some [.int .i64 n.1.1,.int .i64 n.1.2]:=by
  unfold Program.keyLits;simp only[underlying27];rw[if_pos ⟨by kernel_rfl,by kernel_rfl⟩];simp[Program.keyLits,underlying3,w0,w1,ir]
 have hp:prog.keyLits (m+2) 37 [.int .i64 n.2.s,.int .i64 n.2.d,.int .i64 n.2.sp,.int .i64 n.2.dp]=some [.int .i64 n.2.s,.int .i64 n.2.d,.int .i64 n.2.sp,.int .i64 n.2.dp]:=by
  unfold Program.keyLits;simp only[underlying37];rw[if_pos ⟨by kernel_rfl,by kernel_rfl⟩];simp[Program.keyLits,underlying3,w2,w3,w4,w5,ir]
 simp[hi,hp,cPlc,cPkt]
noncomputable def dG:KeyEncW 59 Arv:=⟨λx=>arV x.1 x.2,cK,λn=>eP 59 (arV n.1 n.2),lawAr,keyAr,uM⟩
theorem uMw:prog.underlying 108=some (.map 59 111):=by kernel_rfl
theorem uArs:prog.underlying 56=some (.slice 59):=by kernel_rfl
theorem uN:(prog.info? 59).map (λi=>(i.zero,i.size,i.bytes))=some (some (.agg #[.int .i64 0,.int .i64 0,.int .i64 0,.int .i64 0,.int .i64 0,.int .i64 0]),6,48):=by kernel_rfl
open Classical in
noncomputable def inF (ar:List Arv):Arv->Option Unit:=λx=>if x∈ar then some ()else none
theorem inF_in{ar:List Arv}{x:Arv}:(inF ar x).isSome=true ↔ x∈ar:=by
 unfold inF
 split <;> simp_all
theorem uO(ar:List Arv)(x:Arv):ch (inF ar) x ()=inF (ar++[x]):=by
 funext y
 by_cases h:y=x
 ·subst h;rw[ew];unfold inF;rw[if_pos (by simp)]
 ·rw[fO _ _ h];unfold inF;by_cases hy:y∈ar
  ·rw[if_pos hy,if_pos (by simp[hy])]
  ·rw[if_neg hy,if_neg (by simp[hy,h])]
theorem uP:inF []=λ_=>none:=by
 funext y
 unfold inF;rw[if_neg (by simp)]
structure Wp where
 B:Nat
 f:Nat
 o:Nat
 k:Nat
 A2:Option Addr
 c2:Nat
 L2:Option Addr
 d2:Nat
 A:Option Addr
 c:Nat
 L:Option Addr
 d:Nat
 G:Nat
def Wp.m(p:Wp)(nd nl:Nat)(S:Option Addr)(cS na:Nat):Mp:=⟨2,[.slice p.A nd p.c,.slice p.L nl p.d],[.slice S na cS,.map (some p.G)],110,p.B,p.f,p.o,p.k,p.A2,p.c2,p.L2,p.d2⟩
def KT(T:Nat)(W W':World):Prop:=∀b,b<T->(∀es c,W.heap[b]?≠some (.map es c))->W'.heap[b]?=W.heap[b]?
theorem KT.of_below{T:Nat}{W W':World}(hb:Below W W W')(hT:T<=W.heap.size):KT T W W':=λb h _=>hb.block b (by omega)
theorem KT.cell{T:Nat}{W W':World}(h:KT T W W'){b o:Nat}{v:Value}(hb:b<T)(hc:W.cell? ⟨b,o,none⟩=some v):W'.cell? ⟨b,o,none⟩=some v:=by
 have e:=h b hb (λes c e=>by
  unfold World.cell? at hc;rw[e]at hc;cases hc)
 unfold World.cell? at hc ⊢;rw[e];exact hc
theorem SlAt.kt{α:Type}{T k:Nat}{w w':World}{R R':List Value->α->Prop}{v:Value}{xs:List α}(h:SlAt T w k R v xs)(hb:KT T w w')(hR:∀cs x,x∈xs->R cs x->R' cs x):SlAt T w' k R' v xs:=by
 obtain⟨A,cap,e,h0,h1,h2,h3⟩:=h;refine⟨A,cap,e,h0,h1,h2,λhn=>?_⟩;obtain⟨b,o,ea,hl,hr⟩:=h3 hn;refine⟨b,o,ea,hl,λk x hx=>?_⟩;obtain⟨cs,c1,c2,c3⟩:=hr k x hx;exact⟨cs,c1,hR cs x (List.mem_of_getElem? hx) c2,λj u hj=>hb.cell hl (c3 j u hj)⟩
theorem IsDv.kt{T:Nat}{w w':World}{cs:List Value}{d:Dv}(h:IsDv T w cs d)(hb:KT T w w'):IsDv T w' cs d:=by
 obtain⟨vb,vr,vt,e,h1,h2,h3⟩:=h;exact⟨vb,vr,vt,e,h1.kt hb (λ_ _ _ h=>h),h2.kt hb (λ_ _ _ h=>h),h3.kt hb (λ_ _ _ h=>h)⟩
theorem Devs.kt{T:Nat}{w w':World}{v:Value}{ds:List Dv}(h:Devs T w v ds)(hb:KT T w w'):Devs T w' v ds:=SlAt.kt h hb (λ_ _ _ h=>h.kt hb)
theorem Links.kt{T:Nat}{w w':World}{v:Value}{ls:List Lk}(h:Links T w v ls)(hb:KT T w w'):Links T w' v ls:=SlAt.kt h hb (λ_ _ _ h=>h)
structure WlAt(W:World)(p:Wp)(S:Option Addr)(cS:Nat)(ds:List Dv)(ls:List Lk)(n:Nat)(M:Mnd)(ar:List Arv):Prop where
 blk:Bk W p.B #[.slice p.A ds.length p.c,.slice p.L ls.length p.d,.slice p.A2 ds.length p.c2,.slice p.L2 ls.length p.d2,.map (some p.f),.map (some p.o),.map (some p.k),.slice S ar.length cS,.map (some p.G)] 110
 devs:Devs p.B W (.slice p.A ds.length p.c) ds
 links:Links p.B W (.slice p.L ls.length p.d) ls
 mdevs:Devs p.B W (.slice p.A2 ds.length p.c2) ds
 mlinks:Links p.B W (.slice p.L2 ls.length p.d2) ls
 fl:MapAt eQ cO W p.f n M.fl
 ow:MapAt jQ jS W p.o n M.ow
 bk:MapAt eQ jR W p.k n M.bk
 fo:p.f≠p.o
 fk:p.f≠p.k
 ok:p.o≠p.k
 seen:W.ownsRow (p.B+1) 59 6 (.slice S ar.length cS) ar.length (ar.flatMap arC)
 was:MapAt dG cO W p.G n (inF ar)
 gf:p.G≠p.f
 go:p.G≠p.o
 gk:p.G≠p.k
 lo:p.f<p.B /\ p.o<p.B /\ p.k<p.B /\ p.G<p.B
 all:∀x∈ar,cK x
section
variable {W W':World}{p:Wp}{S:Option Addr}{cS:Nat}{ds:List Dv}{ls:List Lk}{n n':Nat}{M M':Mnd}{ar:List Arv}
theorem WlAt.mem(h:WlAt W p S cS ds ls n M ar):MemAt W (p.m ds.length ls.length S cS ar.length) ds ls n M :=
 ⟨⟨h.blk,rfl⟩,h.mdevs.mono (Nat.le_of_lt h.blk.lt),h.mlinks.mono (Nat.le_of_lt h.blk.lt),h.fl,h.ow,h.bk,h.fo,h.fk,h.ok⟩
theorem WlAt.below(h:WlAt W p S cS ds ls n M ar)(hb:Below W W W'):WlAt W' p S cS ds ls n M ar :=
 have kt:=KT.of_below hb (Nat.le_of_lt h.blk.lt)
 ⟨h.blk.keep hb,h.devs.kt kt,h.links.kt kt,h.mdevs.kt kt,h.mlinks.kt kt,h.fl.same (hb.block _ h.fl.lt),h.ow.same (hb.block _ h.ow.lt),h.bk.same (hb.block _ h.bk.lt),h.fo,h.fk,h.ok,uK h.seen hb,h.was.same (hb.block _ h.was.lt),h.gf,h.go,h.gk,h.lo,h.all⟩
theorem WlAt.alloc(h:WlAt W p S cS ds ls n M ar)(o:Obj):WlAt (W.alloc o) p S cS ds ls n M ar:=h.below ((Below.refl _ _).alloc (Nat.le_refl _) o)
theorem WlAt.drew(h:WlAt W p S cS ds ls n M ar):WlAt W.drew p S cS ds ls n M ar:=h.below (Below.refl _ _).drew
theorem WlAt.mono(h:WlAt W p S cS ds ls n M ar)(hn:n<=n'):WlAt W p S cS ds ls n' M ar:=⟨h.blk,h.devs,h.links,h.mdevs,h.mlinks,h.fl.mono hn,h.ow.mono hn,h.bk.mono hn,h.fo,h.fk,h.ok,h.seen,h.was.mono hn,h.gf,h.go,h.gk,h.lo,h.all⟩
theorem WlAt.hk(h:WlAt W p S cS ds ls n M ar)(hn:n<=n')(hM:MemAt W' (p.m ds.length ls.length S cS ar.length) ds ls n' M')(hk:HK (p.m ds.length ls.length S cS ar.length) W W'):WlAt W' p S cS ds ls n' M' ar:=by
 have hc:=h.mem.ck hk;have kt:KT p.B W W':=λb hb hn=>hc.block b hn (Nat.lt_trans hb h.blk.lt);exact⟨hM.blk.1,h.devs.kt kt,h.links.kt kt,h.mdevs.kt kt,h.mlinks.kt kt,hM.fl,hM.ow,hM.bk,h.fo,h.fk,h.ok,nB h.seen hc,(h.was.same (hk.block _ h.was.lt h.gf h.go h.gk)).mono hn,h.gf,h.go,h.gk,h.lo,h.all⟩
theorem WlAt.look(h:WlAt W p S cS ds ls n M ar){x:Arv}(hx:cK x):(Instr.lookup 108 (.map (some p.G)) (arV x.1 x.2) true).run prog W=.ok (.tuple #[.agg #[],.bool (inF ar x).isSome]) W:=h.was.look uMw (x:=x) hx
structure WF(p:Wp)(S:Option Addr)(W W':World):Prop where
 os:W'.os=W.os
 tape:W'.tape=W.tape
 output:W'.output=W.output
 size:W.heap.size<=W'.heap.size
 block:∀b,b<W.heap.size->b≠p.B->b≠p.f->b≠p.o->b≠p.k->b≠p.G->(∀a,S=some a->b≠a.block)->W'.heap[b]?=W.heap[b]?
theorem WF.of_below(hb:Below W W W'):WF p S W W':=⟨hb.os,hb.tape,hb.output,hb.size,λb h _ _ _ _ _ _=>hb.block b h⟩
theorem WF.of_hk{nd nl na:Nat}(hk:HK (p.m nd nl S cS na) W W'):WF p S W W':=⟨hk.os,hk.tape,hk.output,hk.size,λb h _ h1 h2 h3 _ _=>hk.block b h h1 h2 h3⟩
theorem WF.trans{W'':World}(h:WF p S W W')(g:WF p S W' W''):WF p S W W'':=⟨g.os.trans h.os,g.tape.trans h.tape,g.output.trans h.output,Nat.le_trans h.size g.size,λb hb h1 h2 h3 h4 h5 h6=>(g.block b (Nat.lt_of_lt_of_le hb h.size) h1 h2 h3 h4 h5 h6).trans (h.block b hb h1 h2 h3 h4 h5 h6)⟩
end
theorem gZ{p:Wp}{S:Option Addr}{cS:Nat}{ds:List Dv}{ls:List Lk}{n:Nat}{M:Mnd}{ar:List Arv}(x:Arv)(w:World)(h:Hid (WlAt w p S cS ds ls n M ar))(hx:cK x) :
  CB 11 #[.pointer (some ⟨p.B,0,none⟩),plA x.1.1 x.1.2,pkV x.2] w (.bool (inF ar x).isSome):=by
 have W2:=(h.out.alloc (.cells #[x.1.1,x.1.2] 27)).alloc (pkC x.2);have W2d:=W2.drew;have W2a:=(W2.alloc (.cells #[] 111)).drew;have lk:=W2d.look hx;have lk2:=W2a.look hx;have B2:=W2.blk.at 8;have B2a:=W2a.blk.at 8;have D2:=Below.alN (Below.alN (Below.refl w w) (.cells #[x.1.1,x.1.2] 27)) (pkC x.2);have P2:=(ah w #[x.1.1,x.1.2] 27).alloc (pkC x.2);have Q2:=ax (w.alloc (.cells #[x.1.1,x.1.2] 27)) #[x.2.s,x.2.d,x.2.sp,x.2.dp] 37 (w.heap.size+1) (by simp);obtain⟨⟨i,q⟩,⟨s,d,sp,dp⟩⟩:=x;generalize hv:(inF ar ((i,q),⟨s,d,sp,dp⟩)).isSome=v at *;dsimp only at *;obtain⟨p0,p1⟩:=P2.two;obtain⟨q0,q1,q2,q3,_⟩:=Q2.four;obtain⟨p0',p1'⟩:=(P2.alloc (.cells #[] 111)).drew.two;obtain⟨q0',q1',q2',q3',_⟩:=(Q2.alloc (.cells #[] 111)).drew.four;have D3:=D2.drew;have D4:=(Below.alN D2 (.cells #[] 111)).drew;clear W2 W2d W2a P2 Q2 h;go_enter func11,ntmps11;go_upto_region 1 with fail;go_region;all_goals
  go_wp2_with fail;go_ret;exact⟨rfl,by first|exact D4|exact D3|go_grown⟩
end Go.Proofs.YtjmclcmgpaofiaaGreat
namespace Go.Proofs.YtjmclcmgpaofiaaGreat
open Tryz
open Go.RowKit Go.Maps
open Classical in
noncomputable def addA (ar:List Arv)(x:Arv):List Arv:=if x∈ar then ar else ar++[x]
def SG(S S':Option Addr)(N:Nat):Prop:=∀a',S'=some a'->(∃a,S=some a /\ a.block=a'.block)\/N<=a'.block
theorem SG.refl(S:Option Addr)(N:Nat):SG S S N:=λa h=>Or.inl ⟨a,h,rfl⟩
theorem ku{w:World}{B e size n:Nat}{v:Value}{xs:List Value}(h:w.ownsRow B e size v n xs):∃A cap,v=.slice A n cap /\ ∀a,A=some a->v.ownBlock=some a.block:=by
 rcases h.2 with⟨rfl,h0⟩|⟨g,cap,cur,rfl,_⟩
 ·refine⟨none,0,?_,λa e=>by cases e⟩;first
   | rfl
   | (rw[h0])
   | simp_all
 ·exact⟨some ⟨g,0,none⟩,cap,rfl,λa e=>by cases e;rfl⟩
theorem uQ(x:Arv):∀u∈arC x,u.oneCell'=true:=by
 intro u hu;simp only[arC,List.mem_cons,List.not_mem_nil,or_false]at hu;rcases hu with rfl|rfl|rfl|rfl|rfl|rfl <;> rfl
def AOut(w:World)(p:Wp)(S:Option Addr)(ds:List Dv)(ls:List Lk)(n:Nat)(M:Mnd)(ar:List Arv)(w':World):Prop :=
 ∃S' cS',WlAt w' p S' cS' ds ls n M ar /\ WF p S w w' /\ SG S S' w.heap.size
theorem uR{w w2 w3 w7:World}{p:Wp}{S:Option Addr}{cS:Nat}{ds:List Dv}{ls:List Lk}{n:Nat}{M:Mnd}{ar:List Arv}{x:Arv}{v7:Value}(hx:cK x)(hb:Below w w w2)(h2:WlAt w2 p S cS ds ls n M ar)(hG:MapAt dG cO w3 p.G (n+1) (ch (inF ar) x ()))(ht:w2.drew.mapTurned w3 p.G)(O7:w7.ownsRow (p.B+1) 59 6 v7 (ar.length+1) (ar.flatMap arC++arC x))(D7:Below (p.B+1) w3.drew w7)(K7:KeptW w3.drew w7 (Value.slice S ar.length cS).ownBlock)(g7:v7.ownBlock=(Value.slice S ar.length cS).ownBlock\/∃g,v7.ownBlock=some g /\ w3.drew.heap.size<=g) :
  AOut w p S ds ls (n+1) M (ar++[x]) (w7.setCell ⟨p.B,7,none⟩ v7):=by
 have hc:=CK.of_turned ht;have B3:Bk w3 p.B _ _:=h2.drew.blk.ck hc;have sz3:=ka ht;have zB:p.B<w3.heap.size:=B3.lt;have B7:Bk w7 p.B _ _:=(D7.block p.B (by omega)).trans B3;obtain⟨A7,c7,rfl,hA7⟩:=ku O7;have hF:∀b,b≠p.B->(w7.setCell ⟨p.B,7,none⟩ (.slice A7 (ar.length+1) c7)).heap[b]?=w7.heap[b]?:=λb h=>Below.heap_setCell w7 ⟨p.B,7,none⟩ _ b h;have hlow:∀b,b<p.B->(w7.setCell ⟨p.B,7,none⟩ (.slice A7 (ar.length+1) c7)).heap[b]?=w3.heap[b]?:=λb h=>(hF b (by omega)).trans (D7.block b (by omega));obtain⟨l1,l2,l3,l4⟩:=h2.lo;have kt:KT p.B w2 (w7.setCell ⟨p.B,7,none⟩ (.slice A7 (ar.length+1) c7)):=λb hb' hn=>(hlow b hb').trans (hc.block b hn (Nat.lt_trans hb' h2.blk.lt));have mp:∀b,b<p.B->b≠p.G->(w7.setCell ⟨p.B,7,none⟩ (.slice A7 (ar.length+1) c7)).heap[b]?=w2.heap[b]?:=λb h1 h3=>(hlow b h1).trans (cP (w:=w2.drew) ht h3);have hsz:(w7.setCell ⟨p.B,7,none⟩ (.slice A7 (ar.length+1) c7)).heap.size=w7.heap.size:=by simp[World.setCell]
 refine⟨A7,c7,⟨?_,h2.devs.kt kt,h2.links.kt kt,h2.mdevs.kt kt,h2.mlinks.kt kt,(h2.fl.same (mp _ l1 (λe=>h2.gf e.symm))).mono (by omega),(h2.ow.same (mp _ l2 (λe=>h2.go e.symm))).mono (by omega),(h2.bk.same (mp _ l3 (λe=>h2.gk e.symm))).mono (by omega),h2.fo,h2.fk,h2.ok,?_,?_,h2.gf,h2.go,h2.gk,h2.lo,?_⟩,⟨?_,?_,?_,?_,?_⟩,?_⟩
 ·have:=B7.setS (j:=7) (.slice A7 (ar.length+1) c7);simpa using this
 ·have ho:=dF (w':=w7.setCell ⟨p.B,7,none⟩ (.slice A7 (ar.length+1) c7)) O7 (λg hg=>hF g (by have:=(gY O7 hg).2.1;omega));simpa using ho
 ·rw[<- uO];exact hG.same (hlow _ l4)
 ·intro y hy;rcases List.mem_append.1 hy with h|h
  ·exact h2.all y h
  ·rw[List.mem_singleton.1 h];exact hx
 ·have e1:w7.os=w3.drew.os:=D7.os;have e2:w3.os=w2.os:=ht.grown.os;exact e1.trans (e2.trans hb.os)
 ·exact(D7.tape.trans ht.grown.tape).trans hb.tape
 ·exact(D7.output.trans ht.grown.output).trans hb.output
 ·rw[hsz];have z7:=K7.size;have:w3.drew.heap.size=w3.heap.size:=rfl;have:w2.drew.heap.size=w2.heap.size:=rfl;have:=hb.size;omega
 ·intro b hb' q1 q2 q3 q4 q5 q6;rw[hF b q1];have z2:=hb.size;have e3:w2.drew.heap.size=w2.heap.size:=rfl;have e4:w3.drew.heap.size=w3.heap.size:=rfl;have hS:some b≠(Value.slice S ar.length cS).ownBlock:=λe=>by
   cases S with
   | none=>cases e
   | some a =>
     have:a.block=b:=by
      simp only[Value.ownBlock]at e;first
       | exact(Option.some.inj e).symm
       | (split at e <;> simp_all)
     exact q6 a rfl this.symm
  exact(K7.block b (by omega) hS).trans ((cP ht q5).trans (hb.block b hb'))
 ·intro a' ha';have hb7:=hA7 a' ha';rcases g7 with g7|⟨g,g7,hg⟩
  ·rw[hb7]at g7
   left
   cases S with
   | none=>cases g7
   | some a =>
     refine⟨a,rfl,?_⟩;simp only[Value.ownBlock]at g7;first
      | exact(Option.some.inj g7).symm
      | (split at g7 <;> simp_all)
  ·right
   rw[hb7]at g7;have e5:=Option.some.inj g7;have e4:w3.drew.heap.size=w3.heap.size:=rfl;have e3:w2.drew.heap.size=w2.heap.size:=rfl;have:=hb.size;omega
end Go.Proofs.YtjmclcmgpaofiaaGreat
namespace Go.Proofs.YtjmclcmgpaofiaaGreat
open Tryz
open Go.RowKit Go.Maps
theorem nD{p:Wp}{S:Option Addr}{cS:Nat}{ds:List Dv}{ls:List Lk}{n:Nat}{M:Mnd}{ar:List Arv}(x:Arv)(w:World)(h:Hid (WlAt w p S cS ds ls n M ar))(hx:Hid (cK x))(hn:n<maxLen)(ha:ar.length<=5000) :
  Cl 74 #[.pointer (some ⟨p.B,0,none⟩),arV x.1 x.2] w λe w'=>(∃v,e=.returned v) /\ AOut w p S ds ls (n+1) M (addA ar x) w':=by
 have h1:=h.out.alloc (.cells #[x.1.1,x.1.2,x.2.s,x.2.d,x.2.sp,x.2.dp] 59);have D1:=Below.alN (Below.refl w w) (.cells #[x.1.1,x.1.2,x.2.s,x.2.d,x.2.sp,x.2.dp] 59);have X1:=ah w #[x.1.1,x.1.2,x.2.s,x.2.d,x.2.sp,x.2.dp] 59;have HS:Hid (∀W,WlAt W p S cS ds ls n M ar->CB 11 #[.pointer (some ⟨p.B,0,none⟩),plA x.1.1 x.1.2,pkV x.2] W (.bool (inF ar x).isSome)):=λW hw=>gZ x W hw hx.out;have fin0:Hid ((inF ar x).isSome=true->∀w',WlAt w' p S cS ds ls n M ar->Below w w w'->AOut w p S ds ls (n+1) M (addA ar x) w'):=λhi w' hw hb=>by
  unfold addA;rw[if_pos (inF_in.1 hi)];exact⟨S,cS,hw.mono (by omega),WF.of_below hb,SG.refl _ _⟩
 have fin1:Hid ((inF ar x).isSome=false->addA ar x=ar++[x]):=λhi=>by
  unfold addA;rw[if_neg (λe=>by rw[inF_in.2 e]at hi;cases hi)]
 have fin2:Hid (∀w2 w3 w7 v7,WlAt w2 p S cS ds ls n M ar->Below w w w2->MapAt dG cO w3 p.G (n+1) (ch (inF ar) x ())->w2.drew.mapTurned w3 p.G->w7.ownsRow (p.B+1) 59 6 v7 (ar.length+1) (ar.flatMap arC++arC x)->Below (p.B+1) w3.drew w7->KeptW w3.drew w7 (Value.slice S ar.length cS).ownBlock->(v7.ownBlock=(Value.slice S ar.length cS).ownBlock\/∃g,v7.ownBlock=some g /\ w3.drew.heap.size<=g)->AOut w p S ds ls (n+1) M (ar++[x]) (w7.setCell ⟨p.B,7,none⟩ v7)):=λw2 w3 w7 v7 q1 q2 q3 q4 q5 q6 q7 q8=>uR hx.out q2 q1 q3 q4 q5 q6 q7 q8;have ST:Hid (∀W,WlAt W p S cS ds ls n M ar->∃w3,(Instr.mapUpdate 108 (.map (some p.G)) (.agg #[x.1.1,x.1.2,x.2.s,x.2.d,x.2.sp,x.2.dp]) (.agg #[])).run prog W=.ok () w3 /\ MapAt dG cO w3 p.G (n+1) (ch (inF ar) x ()) /\ W.mapTurned w3 p.G):=λW hw=>hw.was.store uMw hn (x:=x) hx.out ();obtain⟨⟨i,q⟩,⟨s,d,sp,dp⟩⟩:=x;dsimp only at *;obtain⟨⟨x0,x1,x2,x3,x4,x5⟩,_⟩:=X1.six;have h1':=h1.blk.at 8;clear h;go_enter func74,ntmps74;go_wp2_with fail;refine(HS.out _ h1).mono ?_;rintro e w2⟨rfl,hb2⟩;have h2:=h1.below hb2;have D2:=aa hb2 D1;have X2:=X1.keep hb2;clear hb2 h1 D1 X1 x0 x1 x2 x3 x4 x5 HS h1';cases hv:(inF ar ((i,q),⟨s,d,sp,dp⟩)).isSome
 rotate_left
 ·have hf:=fin0.out hv _ h2 D2;clear fin0 fin1 fin2 ST;go_wp2_with fail;first
   | (go_end0;exact⟨⟨_,rfl⟩,hf⟩)
   | (refine bodyPost_ret (results_none rfl _ _ _) rfl ⟨⟨_,rfl⟩,hf⟩)
 obtain⟨w3,hup,G3,T3⟩:=ST.out _ h2.drew;have hc:=CK.of_turned T3;have X3:Bk w3 _ _ _:=X2.drew.ck hc;have B3:Bk w3 _ _ _:=h2.drew.blk.ck hc;have O3:=nB h2.drew.seen hc;have z3:=B3.lt;obtain⟨v7,w7,r7,O7,D7,K7,g7⟩:=uL (w:=w3.drew) uArs uN rfl (by omega) (by omega) 56 O3 (us:=arC ((i,q),⟨s,d,sp,dp⟩)) rfl (uQ _) ha (by show p.B+1<=w3.heap.size;omega);have r7':(Builtin.append_ #[56,56] 56 #[.slice S ar.length cS,.slice (some ⟨w3,0,none⟩) 1 1]).run prog (w3.alloc (.cells #[i,q,s,d,sp,dp] 59)).drew=.ok v7 w7:=r7;have hf:=fin2.out w2 w3 w7 v7 h2 D2 G3 T3 O7 D7 K7 g7;rw[<- fin1.out hv]at hf;have B7:Bk w7 _ _ _:=(D7.block p.B (by omega)).trans B3;obtain⟨⟨y0,y1,y2,y3,y4,y5⟩,_⟩:=X2.drew.six;obtain⟨⟨x0,x1,x2,x3,x4,x5⟩,_⟩:=X3.six;have b8:=h2.drew.blk.at 8;have c7:=B3.at 7;have c7a:=(B3.alloc (.cells #[i,q,s,d,sp,dp] 59)).drew.at 7;have d7:=B7.at 7;have f7:=B7.fz 7;obtain⟨A7,q7,hv7,_⟩:=ku O7;subst hv7;clear fin0 fin1 fin2 ST h2 D2 G3 T3 O7 D7 K7 g7 r7 O3 hc B3 B7 X2 X3;go_wp2_with fail;go_cut [10] (λ_ wx=>wx=w3)
 case first =>
  go_region;all_goals
   go_wp2_with fail
   go_meet
   rfl
 case rest =>
  subst hcut;go_wp2_with fail
  go_region_law (refine nC (by rfl) _ _ 56 (by rfl) _ _ _ w7 (by rfl) (by rfl) r7' ?_)
  all_goals
   go_wp2_with fail
   go_end0
   exact⟨⟨_,rfl⟩,hf⟩
theorem uS{l:Lk}{ds:List Dv}{d p:Int}{t:Int × Int}(h:bv l d p=some t)(h1:isPl ds l.a l.p=true)(h2:isPl ds l.b l.q=true):isPl ds t.1 t.2=true:=by
 unfold bv at h
 split at h
 ·cases h;exact h2
 ·split at h
  ·cases h;exact h1
  ·cases h
theorem nE{ds:List Dv}:∀(ls:List Lk) (d p:Int) (t:Int × Int),(∀l∈ls,isPl ds l.a l.p=true /\ isPl ds l.b l.q=true)->peerF ls d p=some t->isPl ds t.1 t.2=true
 | [],d,p,t,_,h=>by cases h
 | l::ls,d,p,t,hl,h=>by
   have h':(bv l d p).or (peerF ls d p)=some t:=h;cases he:bv l d p with
   | some t' =>
     rw[he]at h';cases h';exact uS he (hl l (by simp)).1 (hl l (by simp)).2
   | none =>
     rw[he]at h';exact nE ls d p t (λm hm=>hl m (by simp[hm])) h'
theorem nF{ds:List Dv}(hd:ds.length<=10){x y:Int}(h:isPl ds x y=true):aj x /\ aj y:=by
 unfold isPl at h;simp only[Bool.and_eq_true,decide_eq_true_eq]at h;have:portsV (aW ds x)<=4:=by
  unfold portsV
  split
  all_goals first|omega|(split <;> omega)|skip
 exact⟨cN (by omega) (by omega),cN (by omega) (by omega)⟩
theorem nG{ds:List Dv}{ls:List Lk}(hz:netV ds ls=0){d p:Int}{t:Int × Int}(h:peerF ls d p=some t):aj t.1 /\ aj t.2 :=
 nF (bi hz).1 (nE ls d p t (bi hz).2.2.2 h)
def fX(AD:Arv->List Arv)(ar:List Arv)(q:Pk):Option (Int × Int)->Int × List Arv
 | some t=>(0,AD (t,q))
 | none=>(7,ar)
noncomputable def injP (ds:List Dv)(ls:List Lk)(ar:List Arv)(i:Int)(p:Pk):Int × List Arv :=
 if 0<=i /\ i<(ds.length:Int)then
  (if(ds.getD i.toNat default).kind=1 then
    (if ae p then
      (if p.s=(ds.getD i.toNat default).addr then
        fX (addA ar) ar p (peerF ls i 0)
      else(1,ar))
    else(1,ar))
  else(1,ar))
 else(4,ar)
theorem AOut.from{w W w':World}{p:Wp}{S:Option Addr}{ds:List Dv}{ls:List Lk}{n:Nat}{M:Mnd}{ar:List Arv}(hb:Below w w W)(h:AOut W p S ds ls n M ar w'):AOut w p S ds ls n M ar w':=by
 obtain⟨S',cS',h1,h2,h3⟩:=h;refine⟨S',cS',h1,(WF.of_below hb).trans h2,λa ha=>?_⟩;rcases h3 a ha with h|h
 ·exact Or.inl h
 ·exact Or.inr (Nat.le_trans hb.size h)
theorem AOut.same{w w':World}{p:Wp}{S:Option Addr}{cS:Nat}{ds:List Dv}{ls:List Lk}{n:Nat}{M:Mnd}{ar:List Arv}(h:WlAt w' p S cS ds ls n M ar)(hb:Below w w w'):AOut w p S ds ls (n+1) M ar w':=⟨S,cS,h.mono (by omega),WF.of_below hb,SG.refl _ _⟩
theorem uT{p:Wp}{S:Option Addr}{cS:Nat}{ds:List Dv}{ls:List Lk}{n:Nat}{M:Mnd}{ar:List Arv}(i:Int)(q:Pk)(w:World)(h:Hid (WlAt w p S cS ds ls n M ar))(hz:Hid (netV ds ls=0))(hn:n<maxLen)(ha:ar.length<=5000) :
  Cl 37 #[.pointer (some ⟨p.B,0,none⟩),i,pkV q] w λe w'=>e=.returned (.int .i64 (injP ds ls ar i q).1) /\ AOut w p S ds ls (n+1) M (injP ds ls ar i q).2 w':=by
 have h1:=h.out.alloc (pkC q);have D1:=Below.alN (Below.refl w w) (pkC q);have X1:=ah w #[q.s,q.d,q.sp,q.dp] 37;have b0:=h1.blk.at 0;obtain⟨r,hr⟩:∃r,injP ds ls ar i q=r:=⟨_,rfl⟩;rw[hr];have HR:Hid (injP ds ls ar i q=r):=hr;clear hr;by_cases hi:0<=i /\ i<(ds.length:Int)
 rotate_left
 ·have hv:r=(4,ar):=by
   rw[<- HR.out];unfold injP;rw[if_neg hi]
  subst hv;have hf:=AOut.same h1 D1;clear HR;by_cases h0:i<0
  ·have u0:decide (i<0)=true:=by simpa using h0
   clear hi h0;go_enter func37,ntmps37;go_wp2_with fail;go_ret;exact⟨rfl,hf⟩
  ·have u0:decide (i<0)=false:=by simpa using h0
   have u1':decide ((ds.length:Int)<=i)=true:=by simp;omega
   clear hi h0;go_enter func37,ntmps37;go_wp2_with fail;go_ret;exact⟨rfl,hf⟩
 obtain⟨j,rfl⟩:∃j:Nat,i=(j:Int):=⟨i.toNat,by omega⟩;have hj:j<ds.length:=by omega
 obtain⟨d,hd⟩:∃d,ds[j]?=some d:=⟨_,List.getElem?_eq_getElem hj⟩;have hgd:ds.getD j default=d:=by rw[List.getD_eq_getElem?_getD,hd];rfl
 obtain⟨b,o,vb,vr,vt,hA,hbl,s1,s2,s3,c0,c1,c2,c3,c4,c5,c6⟩:=h1.devs.at hd;obtain⟨Ab,cb,rfl,_⟩:=s1;obtain⟨Ar,cr,rfl,_⟩:=s2;obtain⟨At,ct,rfl,_⟩:=s3;have HV:Hid (r=((if d.kind=1 then(if ae q then(if q.s=d.addr then fX (addA ar) ar q (peerF ls (j:Int) 0)else(1,ar))else(1,ar))else(1,ar)):Int × List Arv)):=by
  show _=_;rw[<- HR.out];unfold injP;rw[if_pos hi,Int.toNat_natCast,hgd]
 have k1:(0:Int)<=(j:Int):=by omega
 have k2:(j:Int)<(ds.length:Int):=hi.2;have u0:decide ((j:Int)<0)=false:=by simp
 have u1':decide ((ds.length:Int)<=(j:Int))=false:=by simp;omega
 have h2:=h1.alloc (.cells #[.string d.name,.int .i64 d.kind,.int .i64 d.addr,.int .u8 (d.pool:Int),.slice Ab d.backs.length cb,.slice Ar d.rules.length cr,.slice At d.routes.length ct] 70);have D2:=Below.alN D1 (.cells #[.string d.name,.int .i64 d.kind,.int .i64 d.addr,.int .u8 (d.pool:Int),.slice Ab d.backs.length cb,.slice Ar d.rules.length cr,.slice At d.routes.length ct] 70);have X2:=X1.alloc (.cells #[.string d.name,.int .i64 d.kind,.int .i64 d.addr,.int .u8 (d.pool:Int),.slice Ab d.backs.length cb,.slice Ar d.rules.length cr,.slice At d.routes.length ct] 70);have V2:=ax (w.alloc (pkC q)) #[.string d.name,.int .i64 d.kind,.int .i64 d.addr,.int .u8 (d.pool:Int),.slice Ab d.backs.length cb,.slice Ar d.rules.length cr,.slice At d.routes.length ct] 70 (w.heap.size+1) (by simp);have PCp:Hid (∀W,CB 73 #[pkV q] W (.int .i64 (if ae q then 0 else 1))):=λW=>eU q W;have PEE:Hid (∀W,WlAt W p S cS ds ls n M ar->CB 59 #[.agg #[.slice p.A ds.length p.c,.slice p.L ls.length p.d],plA (j:Int) 0] W (.tuple #[bS (peerF ls (j:Int) 0),.bool (peerF ls (j:Int) 0).isSome])):=λW hw=>ib _ p.L ls.length p.d ls (j:Int) 0 W (hw.links.mono (Nat.le_of_lt hw.blk.lt));have ARR:Hid (∀(t:Int × Int) W,WlAt W p S cS ds ls n M ar->aj t.1 /\ aj t.2->ae q=true->Cl 74 #[.pointer (some ⟨p.B,0,none⟩),arV t q] W λe w'=>(∃v,e=.returned v) /\ AOut W p S ds ls (n+1) M (addA ar (t,q)) w'):=λt W hw ht hq=>nD (t,q) W hw ⟨ht.1,ht.2,bm hq⟩ hn ha;have TOK:Hid (∀t,peerF ls (j:Int) 0=some t->aj t.1 /\ aj t.2):=λt ht=>nG hz.out ht;have v1:=V2.at 1;have v2:=V2.at 2;rw[hA]at b0;clear hA HR hi hgd hd hbl h X1 D1 h1 hz;generalize hpf:peerF ls (j:Int) 0=pf at *;generalize addA ar=AD at *;obtain⟨s,dd,sp,dp⟩:=q;by_cases hk:d.kind=1
 rotate_left
 ·have hv:r=(1,ar):=HV.out.trans (if_neg hk);subst hv;have hf:=AOut.same h2 D2;have uk:(d.kind == 1)=false:=by simpa using hk
  have HK1:Hid (¬d.kind=1):=hk;clear HV hk;go_enter func37,ntmps37;go_wp2_with fail;all_goals first|exact absurd ‹_› HK1.out|skip
  go_ret;exact⟨rfl,hf⟩
 have HV2:Hid (r=((if ae ⟨s,dd,sp,dp⟩then(if s=d.addr then fX AD ar ⟨s,dd,sp,dp⟩ pf else(1,ar))else(1,ar)):Int × List Arv)):=by
  exact HV.out.trans (if_pos hk)
 clear HV;generalize d.kind=kd at *;subst hk;generalize d.addr=ad at *;obtain⟨x0,x1,x2,x3,_⟩:=X2.four;cases hpo:ae ⟨s,dd,sp,dp⟩
 ·rw[hpo]at PCp;simp only[Bool.false_eq_true,if_false]at PCp;have hv:r=(1,ar):=HV2.out.trans (if_neg (by rw[hpo];exact Bool.false_ne_true));subst hv;clear HV2 ARR TOK PEE;go_enter func37,ntmps37;go_wp2_with fail;refine(PCp.out _).mono ?_;rintro e w3⟨rfl,hb3⟩;have hf:=AOut.same (h2.below hb3) (aa hb3 D2);go_wp2_with fail;go_ret;exact⟨rfl,hf⟩
 rw[hpo]at PCp;simp only[if_true]at PCp;have HP:Hid (ae ⟨s,dd,sp,dp⟩=true):=hpo;have HV3:Hid (r=((if s=ad then fX AD ar ⟨s,dd,sp,dp⟩ pf else(1,ar)):Int × List Arv)):=by
  exact HV2.out.trans (if_pos hpo)
 clear hpo HV2;by_cases hs:s=ad
 rotate_left
 ·have hv:r=(1,ar):=HV3.out.trans (if_neg hs);subst hv;have us:(s == ad)=false:=by simpa using hs
  have HSA:Hid (¬s=ad):=hs;clear HV3 ARR TOK PEE hs;go_enter func37,ntmps37;go_wp2_with fail;refine(PCp.out _).mono ?_;rintro e w3⟨rfl,hb3⟩;have hf:=AOut.same (h2.below hb3) (aa hb3 D2);obtain⟨y0,y1,y2,y3,_⟩:=(X2.keep hb3).four;have z2:=(V2.keep hb3).at 2;go_wp2_with fail;all_goals first|exact absurd ‹_› HSA.out|skip
  go_ret;exact⟨rfl,hf⟩
 subst hs;have HV4:Hid (r=(fX AD ar ⟨s,dd,sp,dp⟩ pf:Int × List Arv)):=by
  exact HV3.out.trans (if_pos rfl)
 clear HV3;go_enter func37,ntmps37;go_wp2_with fail;refine(PCp.out _).mono ?_;rintro e w3⟨rfl,hb3⟩;have h3:=h2.below hb3;have D3:=aa hb3 D2;have X3:=X2.keep hb3;obtain⟨y0,y1,y2,y3,_⟩:=X3.four;have z2:=(V2.keep hb3).at 2;have c0':=h3.blk.at 0;have c1':=h3.blk.at 1;clear hb3 h2 D2 X2 V2 x0 x1 x2 x3 v1 v2 b0 c0 c1 c2 c3 c4 c5 c6;go_wp2_with fail;with_reducible refine(PEE.out _ h3).mono ?_
 rintro e w4⟨rfl,hb4⟩;have h4:=h3.below hb4;have D4:=aa hb4 D3;have X4:=X3.keep hb4;clear hb4 h3 D3 X3 y0 y1 y2 y3 z2 c0' c1';cases pf with
 | none =>
   have hv:r=(7,ar):=HV4.out;subst hv;have hf:=AOut.same (h4.alloc (.cells #[.int .i64 0,.int .i64 0] 27)) (Below.alN D4 (.cells #[.int .i64 0,.int .i64 0] 27));clear HV4 ARR TOK PEE;go_wp2_with fail;go_ret;exact⟨rfl,hf⟩
 | some t =>
   have hv:r=(0,AD (t,⟨s,dd,sp,dp⟩)):=HV4.out;subst hv;have ht:=TOK.out t rfl;obtain⟨t1,t2⟩:=t;have h5:=h4.alloc (.cells #[t1,t2] 27);have D5:=Below.alN D4 (.cells #[t1,t2] 27);have A6:Hid (Cl 74 #[.pointer (some ⟨p.B,0,none⟩),.agg #[t1,t2,s,dd,sp,dp]] (w4.alloc (.cells #[t1,t2] 27)) _):=ARR.out (t1,t2) _ h5 ht HP.out;obtain⟨y0,y1,y2,y3,_⟩:=(X4.alloc (.cells #[t1,t2] 27)).four;clear HV4 ARR TOK PEE ht;go_wp2_with fail;with_reducible refine A6.out.mono ?_
   rintro e w6⟨⟨v,rfl⟩,hA6⟩;have hf:=AOut.from D5 hA6
   go_wp2_with fail;go_ret;exact⟨rfl,hf⟩
abbrev arZ:Obj:=.cells #[.int .i64 0,.int .i64 0,.int .i64 0,.int .i64 0,.int .i64 0,.int .i64 0] 59
def ZB(T k:Nat)(W:World):Prop:=Bk W k #[.int .i64 0,.int .i64 0,.int .i64 0,.int .i64 0,.int .i64 0,.int .i64 0] 59 /\ T<=k
theorem uU{T:Nat}{W:World}(h:T<=W.heap.size):ZB T W.heap.size (W.alloc arZ):=⟨ah W _ _,h⟩
theorem ZB.drew{T k:Nat}{W:World}(h:ZB T k W):ZB T k W.drew:=h
theorem ZB.ck{T k:Nat}{W W':World}(h:ZB T k W)(hc:CK W W'):ZB T k W':=⟨h.1.ck hc,h.2⟩
theorem WlAt.put{W W':World}{p:Wp}{S:Option Addr}{cS:Nat}{ds:List Dv}{ls:List Lk}{n:Nat}{M:Mnd}{ar:List Arv}(h:WlAt W p S cS ds ls n M ar){k:Nat}(hk:p.B<k)(hs:∀g,(Value.slice S ar.length cS).ownBlock=some g->g≠k)(hF:∀b,b≠k->W'.heap[b]?=W.heap[b]?):WlAt W' p S cS ds ls n M ar:=by
 obtain⟨l1,l2,l3,l4⟩:=h.lo;have kt:KT p.B W W':=λb hb _=>hF b (by omega);exact⟨(hF _ (by omega)).trans h.blk,h.devs.kt kt,h.links.kt kt,h.mdevs.kt kt,h.mlinks.kt kt,h.fl.same (hF _ (by omega)),h.ow.same (hF _ (by omega)),h.bk.same (hF _ (by omega)),h.fo,h.fk,h.ok,dF h.seen (λg hg=>hF g (hs g hg)),h.was.same (hF _ (by omega)),h.gf,h.go,h.gk,h.lo,h.all⟩
theorem WF.set6{w W:World}{p:Wp}{S:Option Addr}(h:WF p S w W){k:Nat}(hk:w.heap.size<=k)(u0 u1 u2 u3 u4 u5:Value):WF p S w ((((((W.setCell ⟨k,0,none⟩ u0).setCell ⟨k,1,none⟩ u1).setCell ⟨k,2,none⟩ u2).setCell ⟨k,3,none⟩ u3).setCell ⟨k,4,none⟩ u4).setCell ⟨k,5,none⟩ u5):=by
 have hb:=((((((Below.refl w W).setCell (p:=⟨k,0,none⟩) hk u0).setCell (p:=⟨k,1,none⟩) hk u1).setCell (p:=⟨k,2,none⟩) hk u2).setCell (p:=⟨k,3,none⟩) hk u3).setCell (p:=⟨k,4,none⟩) hk u4).setCell (p:=⟨k,5,none⟩) hk u5;exact⟨hb.os.trans h.os,hb.tape.trans h.tape,hb.output.trans h.output,Nat.le_trans h.size hb.size,λb hb' q1 q2 q3 q4 q5 q6=>(hb.block b hb').trans (h.block b hb' q1 q2 q3 q4 q5 q6)⟩
theorem uV(W:World)(k:Nat)(u0 u1 u2 u3 u4 u5:Value):((((((W.setCell ⟨k,0,none⟩ u0).setCell ⟨k,1,none⟩ u1).setCell ⟨k,2,none⟩ u2).setCell ⟨k,3,none⟩ u3).setCell ⟨k,4,none⟩ u4).setCell ⟨k,5,none⟩ u5).heap.size=W.heap.size:=by simp only[World.setCell,Array.size_modify]
theorem WlAt.set6{W:World}{p:Wp}{S:Option Addr}{cS:Nat}{ds:List Dv}{ls:List Lk}{n:Nat}{M:Mnd}{ar:List Arv}(h:WlAt W p S cS ds ls n M ar){k:Nat}(hk:p.B<k)(hs:∀g,(Value.slice S ar.length cS).ownBlock=some g->g≠k)(u0 u1 u2 u3 u4 u5:Value):WlAt ((((((W.setCell ⟨k,0,none⟩ u0).setCell ⟨k,1,none⟩ u1).setCell ⟨k,2,none⟩ u2).setCell ⟨k,3,none⟩ u3).setCell ⟨k,4,none⟩ u4).setCell ⟨k,5,none⟩ u5) p S cS ds ls n M ar:=h.put hk hs (λ_ hb=>bK hb u0 u1 u2 u3 u4 u5)
theorem Bk.set6{W:World}{b k:Nat}{c:Array Value}{t:TypeId}(h:Bk W b c t)(hk:b≠k)(u0 u1 u2 u3 u4 u5:Value):Bk ((((((W.setCell ⟨k,0,none⟩ u0).setCell ⟨k,1,none⟩ u1).setCell ⟨k,2,none⟩ u2).setCell ⟨k,3,none⟩ u3).setCell ⟨k,4,none⟩ u4).setCell ⟨k,5,none⟩ u5) b c t:=(bK hk u0 u1 u2 u3 u4 u5).trans h
theorem AOut.after{w W w':World}{p:Wp}{S:Option Addr}{ds:List Dv}{ls:List Lk}{n:Nat}{M:Mnd}{ar:List Arv}(hb:WF p S w W)(h:AOut W p S ds ls n M ar w'):AOut w p S ds ls n M ar w':=by
 obtain⟨S',cS',h1,h2,h3⟩:=h;refine⟨S',cS',h1,hb.trans h2,λa ha=>?_⟩;rcases h3 a ha with h|h
 ·exact Or.inl h
 ·exact Or.inr (Nat.le_trans hb.size h)
noncomputable def hopP (ds:List Dv)(ls:List Lk)(M:Mnd)(ar:List Arv)(i q:Int)(p:Pk)(c:Int):Int × Mnd × List Arv :=
 if(inF ar ((i,q),p)).isSome=true then
  ((aB ds ls M i q p c).err,(aB ds ls M i q p c).M,if(aB ds ls M i q p c).err=0 then addA ar ((aB ds ls M i q p c).tp,(aB ds ls M i q p c).p)else ar)
 else(7,M,ar)
theorem uW{p:Wp}{S:Option Addr}{cS:Nat}{ds:List Dv}{ls:List Lk}{n:Nat}{M:Mnd}{ar:List Arv}(i q:Int)(x:Pk)(c:Int)(w:World)(h:Hid (WlAt w p S cS ds ls n M ar))(hx:Hid (cK ((i,q),x)))(hc:Hid (aj c))(hA:Hid (kG ds))(hO:Hid ((aB ds ls M i q x c).err=0->cK ((aB ds ls M i q x c).tp,(aB ds ls M i q x c).p)))(hn:n+1<maxLen)(ha:ar.length<=5000) :
  Cl 38 #[.pointer (some ⟨p.B,0,none⟩),plA i q,pkV x,c] w λe w'=>e=.returned (.int .i64 (hopP ds ls M ar i q x c).1) /\ AOut w p S ds ls (n+1+1) (hopP ds ls M ar i q x c).2.1 (hopP ds ls M ar i q x c).2.2 w':=by
 have h2:=(h.out.alloc (.cells #[i,q] 27)).alloc (pkC x);have D2:=Below.alN (Below.alN (Below.refl w w) (.cells #[i,q] 27)) (pkC x);have P2:=(ah w #[i,q] 27).alloc (pkC x);have X2:=ax (w.alloc (.cells #[i,q] 27)) #[x.s,x.d,x.sp,x.dp] 37 (w.heap.size+1) (by simp);have HS:Hid (∀W,WlAt W p S cS ds ls n M ar->CB 11 #[.pointer (some ⟨p.B,0,none⟩),plA i q,pkV x] W (.bool (inF ar ((i,q),x)).isSome)):=λW hw=>gZ ((i,q),x) W hw hx.out;have zB:=h.out.blk.lt;have seenLt:∀g,(Value.slice S ar.length cS).ownBlock=some g->g<w.heap.size:=λg hg=>(gY h.out.seen hg).1;obtain⟨v,hv⟩:∃v,(inF ar ((i,q),x)).isSome=v:=⟨_,rfl⟩;obtain⟨r,hr⟩:∃r,aB ds ls M i q x c=r:=⟨_,rfl⟩;have HP:Hid (hopP ds ls M ar i q x c=if v=true then(r.err,r.M,if r.err=0 then addA ar (r.tp,r.p)else ar)else(7,M,ar)):=by
  show _=_;unfold hopP;rw[hv,hr]
 rw[hv]at HS;generalize hopP ds ls M ar i q x c=res at *;have HD0:Hid (∀W,WlAt W p S cS ds ls n M ar->Cl 75 #[.pointer (some ⟨p.B,2,none⟩),plA i q,pkV x,c] W λe w'=>e=.returned (.tuple #[arV r.tp r.p,.int .i64 r.err]) /\ (WlAt w' p S cS ds ls (n+1) r.M ar /\ WF p S W w') /\ CK W w'):=λW hw=>(xf (p.m ds.length ls.length S cS ar.length) ds ls n M i q x c W hw.mem (by omega) hA.out hx.out.1 hc.out).mono λe w' ⟨h1,h2,h3⟩=>by
  rw[hr]at h1 h2;exact⟨h1,⟨hw.hk (by omega) h2 h3,WF.of_hk h3⟩,hw.mem.ck h3⟩
 rw[hr]at hO;have ARR:Hid (r.err=0->∀W,WlAt W p S cS ds ls (n+1) r.M ar->Cl 74 #[.pointer (some ⟨p.B,0,none⟩),arV r.tp r.p] W λe w'=>(∃v,e=.returned v) /\ AOut W p S ds ls (n+1+1) r.M (addA ar (r.tp,r.p)) w'):=λhe W hw=>nD (r.tp,r.p) W hw (hO.out he) hn ha;obtain⟨er,⟨t1,t2⟩,⟨r1,r2,r3,r4⟩,Mr⟩:=r;obtain⟨s,d,sp,dp⟩:=x;dsimp only at *;generalize hb1:w.heap.size=b1 at *;generalize hb2':b1+1=b2 at *;obtain⟨p0,p1⟩:=P2.two;obtain⟨q0,q1,q2,q3,_⟩:=X2.four;clear h hx hc hA hO hv hr;go_enter func38,ntmps38;go_wp2_with fail;with_reducible refine(HS.out _ h2).mono ?_
 rintro e w3⟨rfl,hb3⟩;have h3:=h2.below hb3;have D3:Below w w w3:=aa hb3 (by rw[hb1];exact D2);have P3:=P2.keep hb3;have X3:=X2.keep hb3;clear hb3 h2 D2 P2 X2 p0 p1 q0 q1 q2 q3 HS;cases v
 ·have hv:=HP.out.trans (if_neg Bool.false_ne_true);subst hv;have hf:AOut w p S ds ls (n+1+1) M ar w3:=AOut.same (h3.mono (Nat.le_succ n)) D3;clear HP ARR HD0;go_wp2_with fail;go_ret;exact⟨rfl,hf⟩
 have HV:Hid (res=(er,Mr,if er=0 then addA ar ((t1,t2),⟨r1,r2,r3,r4⟩)else ar)):=HP.out.trans (if_pos rfl);clear HP;obtain⟨Q,hQ⟩:∃Q:Nat->Mnd->World->Prop,Q=λn M W=>WlAt W p S cS ds ls n M ar /\ WF p S w W /\ Bk W b1 #[i,q] 27 /\ Bk W b2 #[s,d,sp,dp] 37 /\ b2<W.heap.size:=⟨_,rfl⟩;have Q3:Q n M w3:=by
  rw[hQ];exact⟨h3,WF.of_below D3,P3,X3,X3.lt⟩
 have FS:∀{n:Nat} {M:Mnd} {w':World},Q n M w'->(w'.cell? ⟨b1,0,none⟩=some (.int .i64 i) /\ w'.cell? ⟨b1,1,none⟩=some (.int .i64 q) /\ w'.cell? ⟨b2,0,none⟩=some (.int .i64 s) /\ w'.cell? ⟨b2,1,none⟩=some (.int .i64 d) /\ w'.cell? ⟨b2,2,none⟩=some (.int .i64 sp) /\ w'.cell? ⟨b2,3,none⟩=some (.int .i64 dp)):=λ{n M w'} h=>by
  rw[hQ]at h;exact⟨h.2.2.1.at 0,h.2.2.1.at 1,h.2.2.2.1.at 0,h.2.2.2.1.at 1,h.2.2.2.1.at 2,h.2.2.2.1.at 3⟩
 have AL:∀{n:Nat} {M:Mnd} {W:World} (o:Obj),Q n M W->Q n M (W.alloc o):=λ{n M W} o h=>by
  rw[hQ]at h ⊢;have hb:Below W W (W.alloc o):=(Below.refl _ _).alloc (Nat.le_refl _) o;exact⟨h.1.alloc o,h.2.1.trans (WF.of_below hb),h.2.2.1.alloc o,h.2.2.2.1.alloc o,Nat.lt_of_lt_of_le h.2.2.2.2 hb.size⟩
 have DR:∀{n:Nat} {M:Mnd} {W:World},Q n M W->Q n M W.drew:=λ{n M W} h=>by
  rw[hQ]at h ⊢;exact⟨h.1.drew,h.2.1.trans (WF.of_below (Below.refl _ _).drew),h.2.2.1.drew,h.2.2.2.1.drew,h.2.2.2.2⟩
 have S6:∀{n:Nat} {M:Mnd} {W:World} {k:Nat},Q n M W->ZB (b2+1) k W->∀u0 u1 u2 u3 u4 u5:Value,Q n M ((((((W.setCell ⟨k,0,none⟩ u0).setCell ⟨k,1,none⟩ u1).setCell ⟨k,2,none⟩ u2).setCell ⟨k,3,none⟩ u3).setCell ⟨k,4,none⟩ u4).setCell ⟨k,5,none⟩ u5):=λ{n M W k} h z u0 u1 u2 u3 u4 u5=>by
  rw[hQ]at h ⊢;have hz:=z.2;exact⟨h.1.set6 (by omega) (λg hg e=>by have:=seenLt g hg;omega) u0 u1 u2 u3 u4 u5,h.2.1.set6 (by omega) u0 u1 u2 u3 u4 u5,h.2.2.1.set6 (by omega) u0 u1 u2 u3 u4 u5,h.2.2.2.1.set6 (by omega) u0 u1 u2 u3 u4 u5,by rw[uV];exact h.2.2.2.2⟩
 have UN:Hid (∀{n:Nat} {M:Mnd} {W:World},Q n M W->WlAt W p S cS ds ls n M ar /\ WF p S w W):=λ{n M W} h=>by
  rw[hQ]at h;exact⟨h.1,h.2.1⟩
 have TW:∀{n:Nat} {M:Mnd} {W:World},Q n M W->b2+1<=W.heap.size:=λ{n M W} h=>by
  rw[hQ]at h;exact h.2.2.2.2
 have HD:Hid (∀W,Q n M W->Cl 75 #[.pointer (some ⟨p.B,2,none⟩),.agg #[i,q],.agg #[s,d,sp,dp],c] W λe w'=>e=.returned (.tuple #[.agg #[t1,t2,r1,r2,r3,r4],er]) /\ Q (n+1) Mr w' /\ CK W w'):=λW h=>by
  rw[hQ]at h;refine(HD0.out W h.1).mono λe w' ⟨h1,⟨h2,h3⟩,h4⟩=>⟨h1,?_,h4⟩;rw[hQ];exact⟨h2,h.2.1.trans h3,h.2.2.1.ck h4,h.2.2.2.1.ck h4,Nat.lt_of_lt_of_le h.2.2.2.2 h4.size⟩
 have Q0d:=DR Q3;have Q0a:=DR (AL arZ Q3);have Z0a:=ZB.drew (uU (TW Q3));obtain⟨c0,c1,c2,c3,c4,c5⟩:=FS Q3;clear hQ h3 D3 P3 X3 HD0;go_upto_region 3 with fail;go_cut [9,10] (λv1 v2 wx=>∃g,v1=.pointer (some ⟨g,0,none⟩) /\ v2=.int .i64 er /\ Bk wx g #[t1,t2,r1,r2,r3,r4] 59 /\ Q (n+1) Mr wx)
 case first =>
  go_region_held3 (λw'=>w'.cell? ⟨b1,0,none⟩=some (.int .i64 i) /\ w'.cell? ⟨b1,1,none⟩=some (.int .i64 q) /\ w'.cell? ⟨b2,0,none⟩=some (.int .i64 s) /\ w'.cell? ⟨b2,1,none⟩=some (.int .i64 d) /\ w'.cell? ⟨b2,2,none⟩=some (.int .i64 sp) /\ w'.cell? ⟨b2,3,none⟩=some (.int .i64 dp)) (exact FS (by first|with_reducible exact Sh|with_reducible exact AL _ Sh|with_reducible exact S6 Sh Zh _ _ _ _ _ _|with_reducible exact Q0a|with_reducible exact Q0d)) (first|(go_at_call 75;(with_reducible refine(HD.out _ Q0a).mono ?_);rintro e wh⟨rfl,Sh,Ch⟩;have Zh:=ZB.ck Z0a Ch;obtain⟨⟨zz0,zz1,zz2,zz3,zz4,zz5⟩,⟨zf0,zf1,zf2,zf3,zf4,zf5⟩⟩:=Zh.1.six)|(go_at_call 75;(with_reducible refine(HD.out _ Q0d).mono ?_);rintro e wh⟨rfl,Sh,Ch⟩;skip))
  all_goals
   go_wp2_with fail
   go_meet
   first
    | exact⟨_,rfl,rfl,(by have:=(((((Zh.1.setS (j:=0) (.int .i64 t1)).setS (j:=1) (.int .i64 t2)).setS (j:=2) (.int .i64 r1)).setS (j:=3) (.int .i64 r2)).setS (j:=4) (.int .i64 r3)).setS (j:=5) (.int .i64 r4);simpa using this),S6 Sh Zh _ _ _ _ _ _⟩
    | exact⟨_,rfl,rfl,ah _ _ _,AL _ Sh⟩
 case rest =>
  clear Q0d Q0a Z0a c0 c1 c2 c3 c4 c5 Q3 HD FS AL DR S6 TW;obtain⟨g,rfl,rfl,G0,Q4⟩:=hcut;obtain⟨h4,F4⟩:=UN.out Q4;clear Q4 UN;by_cases he:er=0
  ·subst he;have A5:=ARR.out rfl _ h4;obtain⟨⟨g0,g1,g2,g3,g4,g5⟩,_⟩:=G0.six;have hv:res=(0,Mr,addA ar ((t1,t2),⟨r1,r2,r3,r4⟩)):=HV.out;subst hv;clear ARR HV;go_wp2_with fail;with_reducible refine A5.mono ?_
   rintro e w6⟨⟨v,rfl⟩,hA6⟩;have hf:=AOut.after F4 hA6;go_wp2_with fail;go_ret;exact⟨rfl,hf⟩
  ·have he1:(er == 0)=false:=by simpa using he
   have HE:Hid (¬er=0):=he;have hf:AOut w p S ds ls (n+1+1) Mr ar wc:=⟨S,cS,h4.mono (Nat.le_succ _),F4,SG.refl _ _⟩;have hv:res=(er,Mr,ar):=HV.out.trans (by rw[if_neg he]);subst hv;clear ARR he HV;go_wp2_with fail;all_goals first|exact absurd ‹_› HE.out|skip
   go_ret;exact⟨rfl,hf⟩
structure Ev where
 k:Int
 i:Int
 q:Int
 p:Pk
 c:Int
structure Ev.ok(x:Ev):Prop where
 i:aj x.i
 q:aj x.q
 p:x.p.ok
 c:aj x.c
noncomputable def doP (ds:List Dv)(ls:List Lk)(M:Mnd)(ar:List Arv)(x:Ev):Int × Mnd × List Arv :=
 if x.k=1 then((injP ds ls ar x.i x.p).1,M,(injP ds ls ar x.i x.p).2)
 else if x.k=2 then hopP ds ls M ar x.i x.q x.p x.c
 else if x.k=3 then((forgetP ds M x.i x.p x.c).err,(forgetP ds M x.i x.p x.c).M,ar)
 else(1,M,ar)
theorem AOut.mono{w w':World}{p:Wp}{S:Option Addr}{ds:List Dv}{ls:List Lk}{n n':Nat}{M:Mnd}{ar:List Arv}(h:AOut w p S ds ls n M ar w')(hn:n<=n'):AOut w p S ds ls n' M ar w':=by
 obtain⟨S',cS',h1,h2,h3⟩:=h;exact⟨S',cS',h1.mono hn,h2,h3⟩
theorem kv{p:Wp}{S:Option Addr}{cS:Nat}{ds:List Dv}{ls:List Lk}{n:Nat}{M:Mnd}{ar:List Arv}(x:Ev)(w:World)(h:Hid (WlAt w p S cS ds ls n M ar))(hx:Hid x.ok)(hz:Hid (netV ds ls=0))(hO:Hid ((aB ds ls M x.i x.q x.p x.c).err=0->cK ((aB ds ls M x.i x.q x.p x.c).tp,(aB ds ls M x.i x.q x.p x.c).p)))(hn:n+1<maxLen)(ha:ar.length<=5000) :
  Cl 12 #[.pointer (some ⟨p.B,0,none⟩),.agg #[x.k,x.i,x.q,x.p.s,x.p.d,x.p.sp,x.p.dp,x.c]] w λe w'=>e=.returned (.int .i64 (doP ds ls M ar x).1) /\ AOut w p S ds ls (n+1+1) (doP ds ls M ar x).2.1 (doP ds ls M ar x).2.2 w':=by
 have h1:=h.out.alloc (.cells #[x.k,x.i,x.q,x.p.s,x.p.d,x.p.sp,x.p.dp,x.c] 47);have D1:=Below.alN (Below.refl w w) (.cells #[x.k,x.i,x.q,x.p.s,x.p.d,x.p.sp,x.p.dp,x.c] 47);have X1:=ah w #[x.k,x.i,x.q,x.p.s,x.p.d,x.p.sp,x.p.dp,x.c] 47;have INJ:Hid (∀W,WlAt W p S cS ds ls n M ar->Cl 37 #[.pointer (some ⟨p.B,0,none⟩),x.i,pkV x.p] W λe w'=>e=.returned (.int .i64 (injP ds ls ar x.i x.p).1) /\ AOut W p S ds ls (n+1) M (injP ds ls ar x.i x.p).2 w'):=λW hw=>uT x.i x.p W hw hz (by omega) ha;have HOP:Hid (∀W,WlAt W p S cS ds ls n M ar->Cl 38 #[.pointer (some ⟨p.B,0,none⟩),plA x.i x.q,pkV x.p,x.c] W λe w'=>e=.returned (.int .i64 (hopP ds ls M ar x.i x.q x.p x.c).1) /\ AOut W p S ds ls (n+1+1) (hopP ds ls M ar x.i x.q x.p x.c).2.1 (hopP ds ls M ar x.i x.q x.p x.c).2.2 w'):=λW hw=>uW x.i x.q x.p x.c W hw ⟨hx.out.i,hx.out.q,hx.out.p⟩ hx.out.c (xB hz.out) hO hn ha;have FGT:Hid (∀W,WlAt W p S cS ds ls n M ar->Cl 39 #[.pointer (some ⟨p.B,2,none⟩),x.i,pkV x.p,x.c] W λe w'=>e=.returned (.int .i64 (forgetP ds M x.i x.p x.c).err) /\ AOut W p S ds ls (n+1+1) (forgetP ds M x.i x.p x.c).M ar w' /\ CK W w'):=λW hw=>(xL (p.m ds.length ls.length S cS ar.length) ds ls n M x.i x.p x.c W hw.mem hx.out.i hx.out.p hx.out.c).mono λe w' ⟨h1,h2,h3⟩=>⟨h1,⟨S,cS,hw.hk (n':=n+1+1) (by omega) (h2.mono (by omega)) h3,WF.of_hk h3,SG.refl _ _⟩,hw.mem.ck h3⟩;obtain⟨res,hres⟩:∃res,doP ds ls M ar x=res:=⟨_,rfl⟩;rw[hres];have e1:Hid (x.k=1->res=((injP ds ls ar x.i x.p).1,M,(injP ds ls ar x.i x.p).2)):=λhk=>by
  rw[<- hres];unfold doP;rw[if_pos hk]
 have e2:Hid (x.k=2->res=hopP ds ls M ar x.i x.q x.p x.c):=λhk=>by
  rw[<- hres];unfold doP;rw[if_neg (by omega),if_pos hk]
 have e3:Hid (x.k=3->res=((forgetP ds M x.i x.p x.c).err,(forgetP ds M x.i x.p x.c).M,ar)):=λhk=>by
  rw[<- hres];unfold doP;rw[if_neg (by omega),if_neg (by omega),if_pos hk]
 have e4:Hid (¬x.k=1->¬x.k=2->¬x.k=3->res=(1,M,ar)):=λa b c=>by
  rw[<- hres];unfold doP;rw[if_neg a,if_neg b,if_neg c]
 have hf0:AOut w p S ds ls (n+1+1) M ar (w.alloc (.cells #[x.k,x.i,x.q,x.p.s,x.p.d,x.p.sp,x.p.dp,x.c] 47)):=(AOut.same h1 D1).mono (by omega);obtain⟨k,i,q,⟨s,d,sp,dp⟩,c⟩:=x;dsimp only at *;generalize injP ds ls ar i ⟨s,d,sp,dp⟩=ri at *;generalize hopP ds ls M ar i q ⟨s,d,sp,dp⟩ c=rh at *;generalize forgetP ds M i ⟨s,d,sp,dp⟩ c=rf at *;have x0:=X1.at 0;have x1:=X1.at 1;have x2:=X1.at 2;have x3:=X1.at 3;have x4:=X1.at 4;have x5:=X1.at 5;have x6:=X1.at 6;have x7:=X1.at 7;clear h hx hz hO hres;by_cases h1':k=1
 ·subst h1';have hv:=e1.out rfl;subst hv;clear e1 e2 e3 e4 hf0 HOP FGT;go_enter func12,ntmps12;go_wp2_with fail;with_reducible refine(INJ.out _ h1).mono ?_
  rintro e w2⟨rfl,hA⟩;have hf:=(AOut.from D1 hA).mono (Nat.le_succ (n+1));go_wp2_with fail;go_ret;exact⟨rfl,hf⟩
 have k1:(k == 1)=false:=by simpa using h1'
 by_cases h2':k=2
 ·subst h2';have hv:=e2.out rfl;subst hv;clear e1 e2 e3 e4 hf0 INJ FGT h1' k1;go_enter func12,ntmps12;go_wp2_with fail;with_reducible refine(HOP.out _ h1).mono ?_
  rintro e w2⟨rfl,hA⟩;have hf:=AOut.from D1 hA
  go_wp2_with fail;go_ret;exact⟨rfl,hf⟩
 have k2:(k == 2)=false:=by simpa using h2'
 by_cases h3':k=3
 rotate_left
 ·have k3:(k == 3)=false:=by simpa using h3'
  have hv:=e4.out h1' h2' h3';subst hv;have N1:Hid (¬k=1):=h1';have N2:Hid (¬k=2):=h2';have N3:Hid (¬k=3):=h3';clear e1 e2 e3 e4 INJ FGT HOP h1' h2' h3';go_enter func12,ntmps12;go_wp2_with fail;all_goals first|exact absurd ‹_› N1.out|exact absurd ‹_› N2.out|exact absurd ‹_› N3.out|skip
  go_ret;exact⟨rfl,hf0⟩
 subst h3';have hv:=e3.out rfl;subst hv;clear e1 e2 e3 e4 INJ HOP h1' h2' k1 k2 hf0;have h1d:=h1.drew;have D1d:=D1.drew;have KE:∀{w':World},CK (w.alloc (.cells #[.int .i64 3,i,q,s,d,sp,dp,c] 47)).drew w'->w'.cell? ⟨w,1,none⟩=some (.int .i64 i) /\ w'.cell? ⟨w,3,none⟩=some (.int .i64 s) /\ w'.cell? ⟨w,4,none⟩=some (.int .i64 d) /\ w'.cell? ⟨w,5,none⟩=some (.int .i64 sp) /\ w'.cell? ⟨w,6,none⟩=some (.int .i64 dp) /\ w'.cell? ⟨w,7,none⟩=some (.int .i64 c):=λhc=>by
  have X:=X1.drew.ck hc;exact⟨X.at 1,X.at 3,X.at 4,X.at 5,X.at 6,X.at 7⟩
 have C0:CK (w.alloc (.cells #[.int .i64 3,i,q,s,d,sp,dp,c] 47)).drew (w.alloc (.cells #[.int .i64 3,i,q,s,d,sp,dp,c] 47)).drew:=⟨Nat.le_refl _,λ_ _ _=>rfl⟩;go_enter func12,ntmps12;go_wp2_with fail;go_region_held3 (λw'=>w'.cell? ⟨w,1,none⟩=some (.int .i64 i) /\ w'.cell? ⟨w,3,none⟩=some (.int .i64 s) /\ w'.cell? ⟨w,4,none⟩=some (.int .i64 d) /\ w'.cell? ⟨w,5,none⟩=some (.int .i64 sp) /\ w'.cell? ⟨w,6,none⟩=some (.int .i64 dp) /\ w'.cell? ⟨w,7,none⟩=some (.int .i64 c)) (exact KE (by first|exact C2|exact C0)) (first|(go_at_call 39;(with_reducible refine(FGT.out _ h1d).mono ?_);rintro e w2⟨rfl,hA,C2⟩))
 all_goals
  have hf:=AOut.from D1d hA
  go_wp2_with fail;first
   | exact⟨rfl,hf⟩
   | (go_ret;exact⟨rfl,hf⟩)
theorem nH{bs:List Int}{ad:Int}:∀(m k:Nat),bs.length-k<=m->bg bs ad k≠1->∀j x,k<=j->bs[j]?=some x->adB x=true
 | 0,k,h,_,j,x,hj,hx=>by
   have:=(List.getElem?_eq_some_iff.1 hx).1;omega
 | m+1,k,h,h0,j,x,hj,hx=>by
   have hjl:=(List.getElem?_eq_some_iff.1 hx).1;have hk:k<bs.length:=by omega
   rw[ia (List.getElem?_eq_getElem hk)]at h0
   split at h0
   ·rename_i hc
    by_cases e:j=k
    ·subst e;rw[List.getElem?_eq_getElem hk]at hx;obtain rfl:=Option.some.inj hx;simp only[Bool.and_eq_true,decide_eq_true_eq]at hc;unfold adB;simp only[Bool.and_eq_true,decide_eq_true_eq];omega
    ·exact nH m (k+1) (by omega) h0 j x (by omega) hx
   ·exact absurd rfl h0
theorem uX{d:Dv}(h:aE d=0):adB d.addr=true /\ ∀(j:Nat) (x:Int),d.backs[j]?=some x->adB x=true:=by
 unfold aE dw at h
 split at h
 ·simp at h
 split at h
 ·simp at h
 rename_i h1 h2
 split at h
 ·simp at h
 split at h
 ·simp at h
 split at h
 ·simp at h
 rename_i h5
 refine⟨?_,λj x hx=>nH d.backs.length 0 (by omega) h5 j x (Nat.zero_le _) hx⟩;unfold adB;simp only[Bool.and_eq_true,decide_eq_true_eq];cases hk:hasAddr d.kind
 ·rw[hk]at h2;simp at h2;omega
 ·rw[hk]at h2;simp at h2;omega
structure MOk(M:Mnd):Prop where
 ow:∀k s,M.ow k=some s->adB s.1=true /\ poB s.2=true
 bk:∀k b,M.bk k=some b->adB b=true
theorem uY:MOk noM:=⟨(λ_ _ h=>by cases h),(λ_ _ h=>by cases h)⟩
theorem nJ{M:Mnd}(h:MOk M){i k:Int}{s:Int × Int}(hs:adB s.1=true /\ poB s.2=true):MOk (learnP M (.own i k s)):=⟨λk' s' e=>by
 have e':ch M.ow (i,k) s k'=some s':=e;by_cases hk:k'=(i,k)
 ·subst hk;rw[ew]at e';cases e';exact hs
 ·rw[fO _ _ hk]at e';exact h.ow _ _ e',h.bk⟩
theorem nK{M:Mnd}(h:MOk M){i:Int}{p:Pk}{b:Int}(hs:adB b=true):MOk (learnP M (.back i p b)):=⟨h.ow,λk' s' e=>by
 have e':ch M.bk (i,p) b k'=some s':=e;by_cases hk:k'=(i,p)
 ·subst hk;rw[ew]at e';cases e';exact hs
 ·rw[fO _ _ hk]at e';exact h.bk _ _ e'⟩
theorem uZ{M:Mnd}(h:MOk M){i:Int}{p:Pk}:MOk (learnP M (.flow i p)):=⟨h.ow,h.bk⟩
theorem vc{p:Pk}(h:ae p=true):adB p.s=true /\ adB p.d=true /\ poB p.sp=true /\ poB p.dp=true:=by
 unfold ae at h;simp only[Bool.and_eq_true]at h;exact⟨h.1.1.1,h.1.1.2,h.1.2,h.2⟩
theorem fY{a b c d:Int}(h1:adB a=true)(h2:adB b=true)(h3:poB c=true)(h4:poB d=true):ae ⟨a,b,c,d⟩=true:=by
 unfold ae;rw[h1,h2,h3,h4];rfl
theorem eg{e:Int}(he:e≠0){P:Prop}(h:(aF e).err=0):P:=absurd h he
theorem nL{M:Mnd}{i:Int}{s:Int × Int}{j:Nat}:∀(m k:Nat),8-k<=m->aL M i s k=some j->j<8
 | 0,k,h,e=>by
   rw[aL,dif_neg (by omega)]at e;cases e
 | m+1,k,h,e=>by
   rw[aL]at e;by_cases hk:k<8
   ·rw[dif_pos hk]at e;by_cases ho:M.ow (i,(k:Int))=some s
    ·rw[if_pos ho]at e;obtain rfl:=Option.some.inj e;exact hk
    ·rw[if_neg ho]at e;exact nL m (k+1) (by omega) e
   ·rw[dif_neg hk]at e;cases e
theorem ve{d:Dv}(hd:adB d.addr=true /\ ∀(j:Nat) (x:Int),d.backs[j]?=some x->adB x=true){M:Mnd}(hM:MOk M){i q:Int}{p:Pk}{c:Int}(hp:ae p=true)(he:(sendP d M i q p c).err=0):ae (sendP d M i q p c).p=true /\ MOk (learnP M (sendP d M i q p c).l):=by
 obtain⟨p1,p2,p3,p4⟩:=vc hp;unfold sendP at he ⊢
 split at he
 ·rename_i hk
  rw[if_pos hk];unfold fQ at he ⊢
  split at he
  ·rename_i h1
   rw[if_pos h1];exact⟨hp,hM⟩
  ·exact eg (by decide) he
 rename_i hk
 rw[if_neg hk]
 split at he
 ·rename_i hk
  rw[if_pos hk]
  split at he
  ·rename_i hq
   rw[if_pos hq];unfold eR at he ⊢
   split at he
   ·rename_i h1
    rw[if_pos h1];exact⟨hp,uZ hM⟩
   ·exact eg (by decide) he
  ·rename_i hq
   rw[if_neg hq];unfold fR at he ⊢
   split at he
   ·rename_i h1
    rw[if_pos h1];exact⟨hp,hM⟩
   ·exact eg (by decide) he
 rename_i hk
 rw[if_neg hk]
 split at he
 ·rename_i hk
  rw[if_pos hk]
  split at he
  ·rename_i hq
   rw[if_pos hq];unfold eS at he ⊢;cases ho:aL M i (p.s,p.sp) 0 with
   | some k =>
     have hk8:=nL 8 0 (by omega) ho;refine⟨fY hd.1 p2 ?_ p4,nJ hM ⟨p1,p3⟩⟩;unfold poB;simp only[Bool.and_eq_true,decide_eq_true_eq];omega
   | none =>
     rw[ho]at he;dsimp only at he ⊢
     split at he
     ·rename_i h1
      rw[if_pos h1]
      split at he
      ·exact eg (by decide) he
      ·rename_i h2
       rw[if_neg h2];have hc:poB c=true:=by
        unfold cj at h1;simp only[Bool.and_eq_true]at h1;exact h1.1
       exact⟨fY hd.1 p2 hc p4,nJ hM ⟨p1,p3⟩⟩
     ·exact eg (by decide) he
  ·rename_i hq
   rw[if_neg hq];unfold dk at he ⊢;cases ho:M.ow (i,p.dp)with
   | some s =>
     rw[ho]at he;dsimp only at he ⊢
     split at he
     ·rename_i h1
      rw[if_pos h1];have:=hM.ow _ _ ho;exact⟨fY p1 this.1 p3 this.2,hM⟩
     ·exact eg (by decide) he
   | none =>
     rw[ho]at he;exact eg (by decide) he
 rename_i hk
 rw[if_neg hk]
 split at he
 ·rename_i hk
  rw[if_pos hk]
  split at he
  ·rename_i hq
   rw[if_pos hq];unfold ez at he ⊢
   split at he
   ·rename_i h1
    rw[if_pos h1];cases ho:M.bk (i,p)with
    | some b =>
      have:=hM.bk _ _ ho;exact⟨fY p1 this p3 p4,nK hM this⟩
    | none =>
      rw[ho]at he;dsimp only at he ⊢
      split at he
      ·rename_i h2
       rw[if_pos h2];have hb:adB (d.backs.getD c.toNat 0)=true:=by
        simp only[Bool.and_eq_true,decide_eq_true_eq]at h2;have hl:c.toNat<d.backs.length:=by omega
        rw[List.getD_eq_getElem?_getD,List.getElem?_eq_getElem hl];exact hd.2 c.toNat _ (List.getElem?_eq_getElem hl)
       exact⟨fY p1 hb p3 p4,nK hM hb⟩
      ·exact eg (by decide) he
   ·rename_i h1
    rw[if_neg h1];exact⟨hp,hM⟩
  ·rename_i hq
   rw[if_neg hq];unfold eT;refine⟨?_,hM⟩;show ae (if _ then _ else _)=true
   split
   ·exact fY hd.1 p2 p3 p4
   ·exact hp
 ·exact eg (by decide) he
theorem iW{ds:List Dv}{ls:List Lk}(hz:netV ds ls=0){M:Mnd}(hM:MOk M)(i q:Int)(p:Pk)(c:Int):MOk (aB ds ls M i q p c).M /\ ((aB ds ls M i q p c).err=0->ae (aB ds ls M i q p c).p=true /\ aj (aB ds ls M i q p c).tp.1 /\ aj (aB ds ls M i q p c).tp.2):=by
 unfold aB;cases hpl:isPl ds i q
 ·rw[if_neg (by simp)];exact⟨hM,λh=>absurd (show(4:Int)=0 from h) (by decide)⟩
 rw[if_pos rfl];cases hp:ae p
 ·rw[if_neg (by simp)];exact⟨hM,λh=>absurd (show(1:Int)=0 from h) (by decide)⟩
 rw[if_pos rfl];have hi:i.toNat<ds.length:=by
  unfold isPl at hpl;simp only[Bool.and_eq_true,decide_eq_true_eq]at hpl;omega
 have hd:adB (ds.getD i.toNat default).addr=true /\ ∀(j:Nat) (x:Int),(ds.getD i.toNat default).backs[j]?=some x->adB x=true:=by
  rw[List.getD_eq_getElem?_getD,List.getElem?_eq_getElem hi];exact uX (ij hz _ (List.getElem_mem hi))
 by_cases he:(sendP (ds.getD i.toNat default) M i q p c).err=0
 ·rw[if_pos he];obtain⟨h1,h2⟩:=ve hd hM hp he;cases hpe:peerF ls i (sendP (ds.getD i.toNat default) M i q p c).port with
  | some t=>exact⟨h2,λ_=>⟨h1,nG hz hpe⟩⟩
  | none=>exact⟨hM,λh=>absurd (show(7:Int)=0 from h) (by decide)⟩
 ·rw[if_neg he];exact⟨hM,λh=>absurd h he⟩
theorem vf{ds:List Dv}{M:Mnd}(hM:MOk M)(i:Int)(p:Pk)(c:Int):MOk (forgetP ds M i p c).M:=by
 unfold forgetP
 split
 ·split
  ·split
   ·exact⟨hM.ow,hM.bk⟩
   ·exact hM
  ·split
   ·split
    ·refine⟨λk s e=>?_,hM.bk⟩;have e':cG M.ow (i,c) k=some s:=e;by_cases hk:k=(i,c)
     ·subst hk;rw[gt]at e';cases e'
     ·rw[jP _ hk]at e';exact hM.ow _ _ e'
    ·exact hM
   ·split
    ·split
     ·refine⟨hM.ow,λk s e=>?_⟩;have e':cG M.bk (i,p) k=some s:=e;by_cases hk:k=(i,p)
      ·subst hk;rw[gt]at e';cases e'
      ·rw[jP _ hk]at e';exact hM.bk _ _ e'
     ·exact hM
    ·exact hM
 ·exact hM
theorem kw{ds:List Dv}{ls:List Lk}(hz:netV ds ls=0){M:Mnd}(hM:MOk M){ar:List Arv}(ha:∀x∈ar,ae x.2=true)(x:Ev):MOk (doP ds ls M ar x).2.1 /\ (∀y∈(doP ds ls M ar x).2.2,ae y.2=true) /\ ((doP ds ls M ar x).2.2=ar\/((doP ds ls M ar x).1=0 /\ ∃y,(doP ds ls M ar x).2.2=ar++[y])):=by
 have hadd:∀y:Arv,ae y.2=true->(∀z∈addA ar y,ae z.2=true) /\ (addA ar y=ar\/∃z,addA ar y=ar++[z]):=λy hy=>by
  unfold addA
  split
  ·exact⟨ha,Or.inl rfl⟩
  ·refine⟨λz hz=>?_,Or.inr ⟨y,rfl⟩⟩;rcases List.mem_append.1 hz with h|h
   ·exact ha z h
   ·rw[List.mem_singleton.1 h];exact hy
 unfold doP
 split
 ·refine⟨hM,?_⟩;unfold injP
  split
  ·split
   ·split
    ·rename_i hp
     split
     ·cases hpe:peerF ls x.i 0 with
      | some t =>
        obtain⟨h1,h2⟩:=hadd (t,x.p) hp;refine⟨h1,?_⟩;rcases h2 with h|h
        ·exact Or.inl h
        ·exact Or.inr ⟨rfl,h⟩
      | none=>exact⟨ha,Or.inl rfl⟩
     ·exact⟨ha,Or.inl rfl⟩
    ·exact⟨ha,Or.inl rfl⟩
   ·exact⟨ha,Or.inl rfl⟩
  ·exact⟨ha,Or.inl rfl⟩
 ·split
  ·unfold hopP
   split
   ·obtain⟨h1,h2⟩:=iW hz hM x.i x.q x.p x.c;refine⟨h1,?_⟩;by_cases he:(aB ds ls M x.i x.q x.p x.c).err=0
    ·obtain⟨g1,g2⟩:=hadd ((aB ds ls M x.i x.q x.p x.c).tp,(aB ds ls M x.i x.q x.p x.c).p) (h2 he).1;dsimp only;rw[if_pos he];refine⟨g1,?_⟩;rcases g2 with h|h
     ·exact Or.inl h
     ·exact Or.inr ⟨he,h⟩
    ·dsimp only;rw[if_neg he];exact⟨ha,Or.inl rfl⟩
   ·exact⟨hM,ha,Or.inl rfl⟩
  ·split
   ·exact⟨vf hM _ _ _,ha,Or.inl rfl⟩
   ·exact⟨hM,ha,Or.inl rfl⟩
abbrev cI:=(Int × Int)->Pk->Prop
abbrev iX(d:Dv)(p:Pk):Bool:=letsB (rulesOf d) p.s p.d p.sp p.dp
def az(d:Dv)(i:Int)(I:cI)(o:Int)(p:Pk):Prop :=
 if d.kind=2 then ∃q,0<=q /\ q<4 /\ I (i,q) p /\ iX d p=true /\ outB (routesOf d) p.d=true /\ outN (routesOf d) p.d=o
 else if d.kind=3 then(if o=1 then I (i,0) p /\ iX d p=true else o=0 /\ I (i,1) p /\ I (i,0) (aN p) /\ iX d (aN p)=true)
 else if d.kind=4 then(if o=1 then p.s=d.addr /\ cj d p.sp=true /\ ∃s sp,I (i,0) ⟨s,p.d,sp,p.dp⟩else o=0 /\ (∃k,cj d k=true /\ I (i,1) ⟨p.s,d.addr,p.sp,k⟩) /\ ∃x y,I (i,0) ⟨p.d,x,p.dp,y⟩)
 else if d.kind=5 then(if o=1 then(I (i,0) p /\ ¬p.d=d.addr)\/(p.d∈d.backs /\ I (i,0) ⟨p.s,d.addr,p.sp,p.dp⟩)else o=0 /\ (I (i,1) p\/(p.s=d.addr /\ ∃b∈d.backs,I (i,1) ⟨b,p.d,p.sp,p.dp⟩ /\ I (i,0) ⟨p.d,d.addr,p.dp,p.sp⟩)))
 else False
structure Closed(ds:List Dv)(ls:List Lk)(I:cI):Prop where
 host:∀(i:Nat) (d:Dv) (p:Pk) (t:Int × Int),ds[i]?=some d->d.kind=1->ae p=true->p.s=d.addr->peerF ls i 0=some t->I t p
 dev:∀(i:Nat) (d:Dv) (o:Int) (p:Pk) (t:Int × Int),ds[i]?=some d->ae p=true->az d i I o p->peerF ls i o=some t->I t p
structure KnowR(ds:List Dv)(M:Mnd)(I:cI):Prop where
 fl:∀(i:Nat) (d:Dv) (p:Pk),ds[i]?=some d->d.kind=3->(M.fl ((i:Int),p)).isSome=true->I ((i:Int),0) p /\ iX d p=true
 ow:∀(i:Nat) (d:Dv) (k:Int) (s:Int × Int),ds[i]?=some d->d.kind=4->M.ow ((i:Int),k)=some s->cj d k=true /\ ∃x y,I ((i:Int),0) ⟨s.1,x,s.2,y⟩
 bk:∀(i:Nat) (d:Dv) (p:Pk) (b:Int),ds[i]?=some d->d.kind=5->M.bk ((i:Int),p)=some b->p.d=d.addr /\ b∈d.backs /\ I ((i:Int),0) p
theorem vg(ds:List Dv)(I:cI):KnowR ds noM I:=⟨(λ_ _ _ _ _ h=>by cases h),(λ_ _ _ _ _ _ h=>by cases h),(λ_ _ _ _ _ _ h=>by cases h)⟩
section
variable {ds:List Dv}{ls:List Lk}{M:Mnd}{I:cI}
theorem nN:∀(n k j:Nat) (i:Int) (s:Int × Int),8-k=n->aL M i s k=some j->M.ow (i,(j:Int))=some s
 | 0,k,j,i,s,hn,h=>by
   unfold aL at h;rw[dif_neg (by omega)]at h;cases h
 | n+1,k,j,i,s,hn,h=>by
   unfold aL at h;rw[dif_pos (by omega)]at h
   split at h
   ·cases h
    assumption
   ·exact nN n (k+1) j i s (by omega) h
theorem vh(hK:KnowR ds M I){j:Nat}{d:Dv}(hd:ds[j]?=some d){q:Int}{p:Pk}{c:Int}(hq:0<=q)(hq4:q<portsV d.kind)(hp:I ((j:Int),q) p)(he:(sendP d M j q p c).err=0):az d j I (sendP d M j q p c).port (sendP d M j q p c).p /\ KnowR ds (learnP M (sendP d M j q p c).l) I:=by
 unfold sendP at he ⊢;unfold az;by_cases k2:d.kind=2
 ·rw[if_pos k2]at he ⊢;rw[if_pos k2];unfold fQ at he ⊢
  split at he
  ·rename_i h
   rw[if_pos h];rw[Bool.and_eq_true]at h;refine⟨⟨q,hq,?_,hp,h.2,h.1,rfl⟩,hK⟩;rw[k2]at hq4;exact hq4
  ·cases he
 rw[if_neg k2]at he ⊢;rw[if_neg k2];have hq2:q<2\/d.kind=1\/¬(d.kind=3\/d.kind=4\/d.kind=5):=by
  unfold portsV at hq4;rw[if_neg k2]at hq4
  split at hq4 <;>(try split at hq4) <;> omega
 by_cases k3:d.kind=3
 ·rw[if_pos k3]at he ⊢;rw[if_pos k3];by_cases hq0:q=0
  ·subst hq0;rw[if_pos rfl]at he ⊢;unfold eR at he ⊢
   split at he
   ·rename_i h
    rw[if_pos h];refine⟨by rw[if_pos rfl];exact⟨hp,h⟩,⟨λi d' p' hd' hk' hf=>?_,hK.ow,hK.bk⟩⟩;by_cases e:((i:Int),p')=((j:Int),p)
    ·obtain⟨e1,e2⟩:=Prod.mk.inj e;subst e2;obtain rfl:i=j:=by omega
     rw[hd]at hd';cases hd';exact⟨hp,h⟩
    ·exact hK.fl i d' p' hd' hk' (by rw[<- fO M.fl () e];exact hf)
   ·cases he
  ·obtain rfl:q=1:=by omega
   rw[if_neg hq0]at he ⊢;unfold fR at he ⊢
   split at he
   ·rename_i h
    rw[if_pos h];obtain⟨h1,h2⟩:=hK.fl j d (aN p) hd k3 h;exact⟨by rw[show(aR 0 p).port=0 from rfl,if_neg (by decide)];exact⟨rfl,hp,h1,h2⟩,hK⟩
   ·cases he
 rw[if_neg k3]at he ⊢;rw[if_neg k3];by_cases k4:d.kind=4
 ·rw[if_pos k4]at he ⊢;rw[if_pos k4];have own:∀k:Int,cj d k=true->I ((j:Int),0) p->KnowR ds (learnP M (.own j k (p.s,p.sp))) I:=λk hk hp0=>⟨hK.fl,λi d' k' s hd' hk' ho=>by
   by_cases e:((i:Int),k')=((j:Int),k)
   ·obtain⟨e1,e2⟩:=Prod.mk.inj e;subst e2;obtain rfl:i=j:=by omega
    rw[hd]at hd';cases hd';have ho':ch M.ow ((i:Int),k') (p.s,p.sp) ((i:Int),k')=some s:=ho;rw[ew]at ho';cases ho';exact⟨hk,p.d,p.dp,hp0⟩
   ·exact hK.ow i d' k' s hd' hk' (by rw[<- fO M.ow (p.s,p.sp) e];exact ho),hK.bk⟩
  by_cases hq0:q=0
  ·subst hq0;rw[if_pos rfl]at he ⊢;unfold eS at he ⊢;cases ho:aL M j (p.s,p.sp) 0 with
   | some k =>
     dsimp only;have hk:=(hK.ow j d k _ hd k4 (nN 8 0 k j _ rfl ho)).1;exact⟨by rw[if_pos rfl];exact⟨rfl,hk,p.s,p.sp,hp⟩,own _ hk hp⟩
   | none =>
     rw[ho]at he;dsimp only at he ⊢
     split at he
     ·rename_i h
      rw[if_pos h]
      split at he
      ·cases he
      ·rename_i h2
       rw[if_neg h2];exact⟨by rw[if_pos rfl];exact⟨rfl,h,p.s,p.sp,hp⟩,own _ h hp⟩
     ·cases he
  ·obtain rfl:q=1:=by omega
   rw[if_neg hq0]at he ⊢;cases ho:M.ow ((j:Int),p.dp)with
   | some s =>
     by_cases h:(p.d == d.addr)=true
     ·have hr:dk d M j p=aR 0 ⟨p.s,s.1,p.sp,s.2⟩:=by
       unfold dk;rw[ho];exact if_pos h
      rw[hr];obtain⟨h1,x,y,h2⟩:=hK.ow j d p.dp s hd k4 ho;have h':p.d=d.addr:=by simpa using h
      refine⟨?_,hK⟩;rw[show ∀x,(aR 0 x).port=0 from λ_=>rfl,if_neg (by decide)];refine⟨rfl,⟨p.dp,h1,?_⟩,x,y,h2⟩;show I ((j:Int),1) ⟨p.s,d.addr,p.sp,p.dp⟩;rw[<- h'];exact hp
     ·have hr:dk d M j p=aF 7:=by
       unfold dk;rw[ho];exact if_neg h
      rw[hr]at he;cases he
   | none =>
     have hr:dk d M j p=aF 7:=by
      unfold dk;rw[ho]
     rw[hr]at he;cases he
 rw[if_neg k4]at he ⊢;rw[if_neg k4];by_cases k5:d.kind=5
 ·rw[if_pos k5]at he ⊢;rw[if_pos k5];have bck:∀b:Int,b∈d.backs->p.d=d.addr->I ((j:Int),0) p->KnowR ds (learnP M (.back j p b)) I:=λb hb hpd hp0=>⟨hK.fl,hK.ow,λi d' p' b' hd' hk' ho=>by
   by_cases e:((i:Int),p')=((j:Int),p)
   ·obtain⟨e1,e2⟩:=Prod.mk.inj e;subst e2;obtain rfl:i=j:=by omega
    rw[hd]at hd';cases hd';have ho':ch M.bk ((i:Int),p') b ((i:Int),p')=some b':=ho;rw[ew]at ho';cases ho';exact⟨hpd,hb,hp0⟩
   ·exact hK.bk i d' p' b' hd' hk' (by rw[<- fO M.bk b e];exact ho)⟩
  by_cases hq0:q=0
  ·subst hq0;rw[if_pos rfl]at he ⊢;unfold ez at he ⊢
   split at he
   ·rename_i h
    rw[if_pos h];have h':p.d=d.addr:=by simpa using h
    have hp':I ((j:Int),0) ⟨p.s,d.addr,p.sp,p.dp⟩:=by rw[<- h'];exact hp
    cases ho:M.bk ((j:Int),p)with
    | some b =>
      obtain⟨_,h2,_⟩:=hK.bk j d p b hd k5 ho;exact⟨by rw[if_pos rfl];exact Or.inr ⟨h2,hp'⟩,bck b h2 h' hp⟩
    | none =>
      rw[ho]at he;dsimp only at he ⊢
      split at he
      ·rename_i h3
       rw[if_pos h3];simp only[Bool.and_eq_true,decide_eq_true_eq]at h3;have hb:d.backs.getD c.toNat 0∈d.backs:=by
        rw[List.getD_eq_getElem?_getD,List.getElem?_eq_getElem (by omega)];exact List.getElem_mem _
       exact⟨by rw[if_pos rfl];exact Or.inr ⟨hb,hp'⟩,bck _ hb h' hp⟩
      ·cases he
   ·rename_i h
    rw[if_neg h];have h':¬p.d=d.addr:=by simpa using h
    exact⟨by rw[show(aR 1 p).port=1 from rfl,if_pos rfl];exact Or.inl ⟨hp,h'⟩,hK⟩
  ·obtain rfl:q=1:=by omega
   rw[if_neg hq0]at he ⊢;unfold eT;refine⟨?_,hK⟩;rw[show ∀x,(aR 0 x).port=0 from λ_=>rfl,if_neg (by decide)];refine⟨rfl,?_⟩;by_cases hb:M.bk ((j:Int),⟨p.d,d.addr,p.dp,p.sp⟩)=some p.s
   ·rw[if_pos hb];obtain⟨_,h2,h3⟩:=hK.bk j d _ _ hd k5 hb;exact Or.inr ⟨rfl,p.s,h2,hp,h3⟩
   ·rw[if_neg hb];exact Or.inl hp
 rw[if_neg k5]at he;cases he
theorem vi(hz:netV ds ls=0)(hM:MOk M)(hI:Closed ds ls I)(hK:KnowR ds M I){i q:Int}{p:Pk}{c:Int}(hp:I (i,q) p):KnowR ds (aB ds ls M i q p c).M I /\ ((aB ds ls M i q p c).err=0->I (aB ds ls M i q p c).tp (aB ds ls M i q p c).p):=by
 have ho:=(iW hz hM i q p c (ls:=ls)).2;unfold aB at ho ⊢;cases hpl:isPl ds i q
 ·rw[if_neg (by simp)];exact⟨hK,λe=>by cases e⟩
 rw[hpl,if_pos rfl]at ho;rw[if_pos rfl];cases hpk:ae p
 ·rw[if_neg (by simp)];exact⟨hK,λe=>by cases e⟩
 rw[hpk,if_pos rfl]at ho;rw[if_pos rfl];unfold isPl at hpl;simp only[Bool.and_eq_true,decide_eq_true_eq]at hpl;obtain⟨⟨⟨h0,h1⟩,h2⟩,h3⟩:=hpl;obtain⟨j,rfl⟩:∃j:Nat,i=(j:Int):=⟨i.toNat,by omega⟩;obtain⟨d,hd⟩:∃d,ds[j]?=some d:=⟨_,List.getElem?_eq_getElem (by omega)⟩;have hg:ds.getD (j:Int).toNat default=d:=by rw[Int.toNat_natCast,List.getD_eq_getElem?_getD,hd];rfl
 have hk:aW ds (j:Int)=d.kind:=by
  unfold aW;rw[Int.toNat_natCast,hd];rfl
 rw[hk]at h3;rw[hg]at ho ⊢;by_cases he:(sendP d M j q p c).err=0
 ·rw[if_pos he]at ho ⊢;obtain⟨s1,s2⟩:=vh hK hd h2 h3 hp he;cases hpe:peerF ls (j:Int) (sendP d M j q p c).port with
  | none=>exact⟨hK,λe=>by cases e⟩
  | some t =>
    rw[hpe]at ho;dsimp only at ho ⊢;exact⟨s2,λ_=>hI.dev j d _ _ t hd (ho rfl).1 s1 hpe⟩
 ·rw[if_neg he];exact⟨hK,λe=>absurd e he⟩
theorem vj(hK:KnowR ds M I)(i:Int)(p:Pk)(port:Int):KnowR ds (forgetP ds M i p port).M I:=by
 have del:∀{α β:Type} (f:α->Option β) (x y:α) (v:β),cG f x y=some v->f y=some v:=λf x y v h=>by
  unfold cG at h
  split at h
  ·cases h
  ·exact h
 unfold forgetP
 split
 ·split
  ·split
   ·refine⟨λi' d' p' hd hk hf=>hK.fl i' d' p' hd hk ?_,hK.ow,hK.bk⟩;obtain⟨v,hv⟩:=Option.isSome_iff_exists.1 hf;exact Option.isSome_iff_exists.2 ⟨v,del _ _ _ _ hv⟩
   ·exact hK
  ·split
   ·split
    ·exact⟨hK.fl,λi' d' k s hd hk ho=>hK.ow i' d' k s hd hk (del _ _ _ _ ho),hK.bk⟩
    ·exact hK
   ·split
    ·split
     ·exact⟨hK.fl,hK.ow,λi' d' p' b hd hk ho=>hK.bk i' d' p' b hd hk (del _ _ _ _ ho)⟩
     ·exact hK
    ·exact hK
 ·exact hK
theorem nO{ar:List Arv}{y:Arv}(ha:∀x∈ar,I x.1 x.2)(hy:I y.1 y.2):∀x∈addA ar y,I x.1 x.2:=λx hx=>by
 unfold addA at hx
 split at hx
 ·exact ha x hx
 ·rcases List.mem_append.1 hx with h|h
  ·exact ha x h
  ·obtain rfl:=List.mem_singleton.1 h;exact hy
theorem do_r(hz:netV ds ls=0)(hM:MOk M)(hI:Closed ds ls I)(hK:KnowR ds M I){ar:List Arv}(ha:∀x∈ar,I x.1 x.2)(x:Ev):KnowR ds (doP ds ls M ar x).2.1 I /\ ∀y∈(doP ds ls M ar x).2.2,I y.1 y.2:=by
 unfold doP;by_cases k1:x.k=1
 ·rw[if_pos k1];refine⟨hK,?_⟩;unfold injP
  split
  ·rename_i hi
   split
   ·rename_i hk
    split
    ·rename_i hp
     split
     ·rename_i hs
      unfold fX;obtain⟨j,hj⟩:∃j:Nat,x.i=(j:Int):=⟨x.i.toNat,by omega⟩;obtain⟨d,hd⟩:∃d,ds[j]?=some d:=⟨_,List.getElem?_eq_getElem (by omega)⟩;have hg:ds.getD x.i.toNat default=d:=by rw[hj,Int.toNat_natCast,List.getD_eq_getElem?_getD,hd];rfl
      rw[hg]at hk hs;cases hpe:peerF ls x.i 0 with
      | none=>exact ha
      | some t =>
        rw[hj]at hpe;exact nO (y:=(t,x.p)) ha (hI.host j d x.p t hd hk hp hs hpe)
     ·exact ha
    ·exact ha
   ·exact ha
  ·exact ha
 rw[if_neg k1];by_cases k2:x.k=2
 ·rw[if_pos k2];unfold hopP
  split
  ·rename_i hin
   have hp:I (x.i,x.q) x.p:=ha _ (inF_in.1 hin);obtain⟨h1,h2⟩:=vi hz hM hI hK hp (c:=x.c);refine⟨h1,?_⟩;dsimp only
   split
   ·rename_i he
    exact nO (y:=(_,_)) ha (h2 he)
   ·exact ha
  ·exact⟨hK,ha⟩
 rw[if_neg k2]
 split
 ·exact⟨vj hK _ _ _,ha⟩
 ·exact⟨hK,ha⟩
end
end Go.Proofs.YtjmclcmgpaofiaaGreat
namespace Go.Proofs.YtjmclcmgpaofiaaGreat
open Tryz
open Go.RowKit Go.Shelf
attribute [local go_sem] Oper.semAt_some
abbrev IR:=Nat × Rl
def iY(x:IR):Array Value:=#[.int .i64 (x.1:Int),rv x.2]
def came(xs:List Rl)(k:Nat):List IR:=(List.range k).map λj=>(xs.length-1-j,(xs[xs.length-1-j]?).getD (allR false))
theorem vk(xs:List Rl)(k:Nat):came xs (k+1)=came xs k++[(xs.length-1-k,(xs[xs.length-1-k]?).getD (allR false))]:=by simp[came,List.range_succ]
theorem came_length(xs:List Rl)(k:Nat):(came xs k).length=k:=by simp[came]
def KpB(a9 Bs:Nat)(v:Value)(W W':World):Prop:=Below a9 W W' /\ (Boxed W Bs 66 v->Boxed W' Bs 66 v)
theorem nQ{a9 Bs:Nat}{v:Value}{A B C:World}(h:KpB a9 Bs v A B)(k:KpB a9 Bs v B C):KpB a9 Bs v A C:=⟨h.1.trans k.1,λx=>k.2 (h.2 x)⟩
theorem vn{a9 Bs:Nat}{v:Value}(A:World):KpB a9 Bs v A A:=⟨Below.refl _ _,id⟩
theorem vo(F:Fence)(n:Nat)(hF:F.fn 225)(hro:F.round=none)(hn:1<=n)(l Bs a9 b o cap:Nat)(xs:List Rl)(hlen:xs.length<=1099511627776)(hb:b<a9)(J Jx:List IR->World->Prop)
  (hY:∀pre x W,J pre W->pre.length<xs.length->YieldAt F (n-1) prog l (iY x) W λe W' =>
    (e=.returned (.bool true) /\ J (pre++[x]) W' /\ KpB a9 Bs (.slice (some ⟨b,o,none⟩) xs.length cap) W W')\/(e=.returned (.bool false) /\ Jx (pre++[x]) W'))
  (W:World) (hBs:Boxed W Bs 66 (.slice (some ⟨b,o,none⟩) xs.length cap)) (hr:RAt W b o xs) (h0:J [] W) :
  CallsIn F n prog 225 #[.func (.yield l) #[] #[],.pointer Bs] W λe W'=>(∃v,e=.returned v) /\
   ((∃ys,ys=came xs xs.length /\ J ys W')\/(∃pre,(∃k,k<=xs.length /\ pre=came xs k) /\ Jx pre W')):=by
 have c0:=hBs.cell;refine callsIn_of_wp func225 rfl hF ?_ hro;simp only[ntmps225,List.size_toArray,List.length_cons,List.length_nil,Nat.reduceAdd,Nat.reduceSub,Array.replicate_succ,Array.replicate_zero,List.push_toArray,List.append_toArray,List.nil_append,List.cons_append]
 gi_wp2
 gi_loopw [3] (λi wr=>∃(m k:Nat) (I:Int),m+k=xs.length /\ i=.int .i64 I /\ I=(m:Int)-1 /\ J (came xs k) wr /\ KpB a9 Bs (.slice (some ⟨b,o,none⟩) xs.length cap) W wr)
  (λi _=>(intOf i+1).toNat)
 case atStart=>exact⟨xs.length,0,_,by omega,rfl,rfl,h0,vn _⟩
 case round =>
  obtain⟨m,k,I,hmk,rfl,hI,hJs,hK⟩:=hrel;have c1:=(hK.2 hBs).cell;cases m with
  | zero =>
    obtain rfl:k=xs.length:=by omega
    obtain rfl:I=-1:=by omega
    clear hI
    gi_wp2
    go_end0
    exact⟨⟨_,rfl⟩,.inl ⟨_,rfl,hJs⟩⟩
  | succ j =>
    have hj:j<xs.length:=by omega
    obtain⟨r,hxj⟩:∃r,xs[j]?=some r:=⟨_,List.getElem?_eq_getElem hj⟩;obtain⟨d0,d1,d2,d3,d4⟩:=(hr.below hK.1 hb).at hxj;have hce:came xs (k+1)=came xs k++[(j,r)]:=by
     rw[vk,show xs.length-1-k=j by omega,hxj];rfl
    obtain⟨fn,tmps,assign,body,hy,hR⟩:=hY _ (j,r) wr hJs (by rw[came_length];omega);simp only[iY]at hy;obtain rfl:I=(j:Int):=by omega
    clear hI
    gi_wp2
    refine hR.mono ?_;rintro e W3 (⟨rfl,hJ3,hk3⟩|⟨rfl,hJx3⟩)
    ·gi_wp2
     go_roundw
     case rel=>exact⟨j,k+1,_,by omega,rfl,rfl,by rw[hce];exact hJ3,nQ hK hk3⟩
     case measure=>simp[intOf]
    ·gi_wp2
     refine bodyPost_ret (results_none rfl _ _ _) rfl ?_;exact⟨⟨_,rfl⟩,.inr ⟨_,⟨k+1,by omega,hce.symm⟩,hJx3⟩⟩
theorem vp(F:Fence)(n:Nat)(hF:F.fn 225)(hro:F.round=none)(l Bs:Nat)(A:Option Addr)(cap:Nat)(J:List IR->World->Prop)(W:World)(hBs:Boxed W Bs 66 (.slice A 0 cap))(h0:J [] W) :
  CallsIn F n prog 225 #[.func (.yield l) #[] #[],.pointer Bs] W λe W'=>(∃v,e=.returned v) /\ J [] W':=by
 have c0:=hBs.cell;refine callsIn_of_wp func225 rfl hF ?_ hro;simp only[ntmps225,List.size_toArray,List.length_cons,List.length_nil,Nat.reduceAdd,Nat.reduceSub,Array.replicate_succ,Array.replicate_zero,List.push_toArray,List.append_toArray,List.nil_append,List.cons_append]
 gi_wp2
 gi_loopw [3] (λi wr=>i=.int .i64 (-1) /\ J [] wr) (λ_ _=>0)
 case atStart=>exact⟨rfl,h0⟩
 case round =>
  obtain⟨rfl,hJs⟩:=hrel
  gi_wp2
  go_end0
  exact⟨⟨_,rfl⟩,hJs⟩
theorem vq(F:Fence)(n:Nat)(hF:F.fn 220)(hro:F.round=none)(A:Option Addr)(len cap:Nat)(w:World) :
  CallsIn F n prog 220 #[.slice A len cap] w λe w'=>e=.returned (.func (.func 225) #[] #[.pointer (some ⟨w,0,none⟩)]) /\ w'=w.alloc (.cells #[.slice A len cap] 66):=by
 refine callsIn_of_wp func220 rfl hF ?_ hro;simp only[ntmps220,List.size_toArray,List.length_cons,List.length_nil,Nat.reduceAdd,Nat.reduceSub,Array.replicate_succ,Array.replicate_zero,List.push_toArray,List.append_toArray,List.nil_append,List.cons_append]
 gi_wp2
 go_ret;exact⟨rfl,rfl⟩
theorem vu(F:Fence)(n:Nat)(hF:F.fn 225)(hro:F.round=none)(hn:1<=n)(Bs a9:Nat)(v:Value)(xs:List Rl)(hlen:xs.length<=1099511627776)(w:World)(hbase:a9<=w.heap.size)
  (hB:Boxed w Bs 66 v) (hR:Rules a9 w v xs) :
  SeqStopsK F n prog 225 #[.pointer Bs] iY (KpB a9 Bs v) (λys=>ys=came xs xs.length)
   (λpre=>∃k,k<=xs.length /\ pre=came xs k) xs.length w:=λl J Jx W hW _ _ hY h0=>by
 have hB':Boxed W Bs 66 v:=(hW.block Bs hB.lt).trans hB;obtain⟨A,cap,rfl,h1,h2,h3,h4⟩:=hR.below (hW.mono hbase);by_cases hx:xs=[]
 ·subst hx;exact(vp F n hF hro l Bs A cap J W hB' h0).mono λe W' ⟨he,hj⟩=>⟨he,.inl ⟨_,rfl,hj⟩⟩
 ·obtain⟨b,o,rfl,hb,hr⟩:=h4 hx;exact vo F n hF hro hn l Bs a9 b o cap xs hlen hb J Jx hY W hB' hr h0
end Go.Proofs.YtjmclcmgpaofiaaGreat
