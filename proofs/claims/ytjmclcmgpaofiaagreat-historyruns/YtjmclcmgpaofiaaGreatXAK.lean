/-
  XAK.
-/
import Derived.Test.YtjmclcmgpaofiaaGreatXLy
import Derived.Test.YtjmclcmgpaofiaaGreatXAH
import Derived.Test.YtjmclcmgpaofiaaGreatXAJ
import Derived.Test.YtjmclcmgpaofiaaGreatXAI
import Derived.Test.YtjmclcmgpaofiaaGreatXAC
set_option maxHeartbeats 8000000
set_option maxRecDepth 100000
namespace Go.Proofs.YtjmclcmgpaofiaaGreat
open Tryz
open Go.RowKit Go.Shelf Go.Maps
attribute [local go_sem] Oper.semAt_some
def ao:List Rl->Env->Bool
 | [],_=>false
 | r::l,x=>if phi r.a r.b r.c r.d x then r.ok else ao l x
theorem xM(xs:List Rl):((came xs xs.length).map Prod.snd).reverse=xs:=by
 apply List.ext_getElem
 ·simp[came]
 ·intro i h1 h2;simp[came];rw[show xs.length-1-(xs.length-1-i)=i by omega,List.getElem?_eq_getElem h2];rfl
theorem xN(pre:List IR)(x:IR)(e:Env):ao ((pre++[x]).map Prod.snd).reverse e=if phi x.2.a x.2.b x.2.c x.2.d e then x.2.ok else ao (pre.map Prod.snd).reverse e:=by
 simp[ao]
theorem xO(r:Rl)(w:World):CB 221 #[rv r] w (.int .i64 ((if r.ok then 1 else 0:Nat):Int)):=by
 have D0:=Below.alloc' (Below.refl w w) (.cells #[.bool r.ok,.int .u16 (r.a:Int),.int .u16 (r.b:Int),.int .u8 (r.c:Int),.int .u8 (r.d:Int)] 64);obtain⟨ok,ra,rb,rc,rd,_,_,_,_⟩:=r;cases ok
 ·go_enter func221,ntmps221;go_wp2_with fail;go_ret;exact⟨rfl,D0⟩
 ·go_enter func221,ntmps221;go_wp2_with fail;go_ret;exact⟨rfl,D0⟩
theorem oE(r:Rl)(w:World):Cl 221 #[rv r] w λe w'=>∃q:Nat,e=.returned (q:Int) /\ Hid (q=if r.ok then 1 else 0) /\ Below w w w' :=
 (xO r w).mono λ_ _ ⟨h1,h2⟩=>⟨_,h1,rfl,h2⟩
def Box5(W:World)(B:Nat)(r:Rl):Prop:=W.heap[B]?=some (.cells #[.bool r.ok,.int .u16 (r.a:Int),.int .u16 (r.b:Int),.int .u8 (r.c:Int),.int .u8 (r.d:Int)] 64 (0,0))
theorem Box5.cells{W:World}{B:Nat}{r:Rl}(h:Box5 W B r):W.cell? ⟨B,0,none⟩=some (.bool r.ok) /\ W.cell? ⟨B,1,none⟩=some (.int .u16 (r.a:Int)) /\ W.cell? ⟨B,2,none⟩=some (.int .u16 (r.b:Int)) /\ W.cell? ⟨B,3,none⟩=some (.int .u8 (r.c:Int)) /\ W.cell? ⟨B,4,none⟩=some (.int .u8 (r.d:Int)):=by
 refine⟨?_,?_,?_,?_,?_⟩ <;>(rw[cell_of_row W B _ _ _ _ h];rfl)
section
variable {a9 a M:Nat}{W W':World}{ns:List Nd}
theorem Ar.book{a8 a7 B:Nat}{row:Option Nat}(h:Ar a9 a M a8 a7 W ns)(hg:W.grownBy W' row)(hr:∀r,row=some r->B<=r /\ ∃o:Obj,W.heap[r]?=some o /\ o.isCells=false)(hM:M<B):Ar a9 a M a8 a7 W' ns:=by
 obtain⟨cur,hrow,_,rl⟩:=h.row;obtain⟨g,cap,cs,t,hb,_⟩:=h.blk;refine h.same (hg.block a h.lta (λe=>?_)) (hg.block M h.ltM (λe=>?_)) (hg.block _ rl (λe=>?_))
 ·obtain⟨_,o,ho,hc⟩:=hr a e.symm;rw[hb]at ho;cases ho;cases hc
 ·have:=(hr M e.symm).1;omega
 ·obtain⟨_,o,ho,hc⟩:=hr _ e.symm;rw[hrow]at ho;cases ho;cases hc
theorem Ar.outBox{a8 a7 i:Nat}{cs:Array Value}{t:TypeId}(h:Ar a9 a M a8 a7 W ns)(hb:W.heap[i]?=some (.cells cs t (0,0)))(h1:t≠82 /\ t≠85)(h2:t≠144):Loc (ca a9 a M a8 a7) W i cs t:=by
 refine⟨⟨(Array.getElem?_eq_some_iff.1 hb).1,?_,λe=>?_⟩,hb⟩
 ·have na:i≠a:=λe=>by
   obtain⟨g,cap,cs,t,ha,hc,_⟩:=h.blk;rw[e,ha]at hb;simp only[Option.some.injEq,Obj.cells.injEq]at hb;rcases hc.ty with e1|e1
   ·exact h1.1 (hb.2.1.symm.trans e1)
   ·exact h1.2 (hb.2.1.symm.trans e1)
  rintro(e|e|e|e|e|e)
  ·exact na e
  ·exact na e
  ·have e':i=M:=e;obtain⟨num,hm,_⟩:=h.map;obtain⟨es,clock,hM⟩:=hm.isMap;rw[e',hM]at hb;simp at hb
  ·cases e
  ·cases e
  ·cases e
 ·have e':i=rowOf W a:=e;obtain⟨cur,hrow,_⟩:=h.row;rw[e',hrow]at hb;simp only[Option.some.injEq,Obj.cells.injEq]at hb;exact h2 hb.2.1.symm
theorem Kp.keepsFrom{a8 a7 B:Nat}(k:Kp (ca a9 a M a8 a7) W W')(h:Ar a9 a M a8 a7 W ns)(hM:M<B):KeepsFrom B W W':=by
 refine⟨k.size,λi o hB hi ho=>?_⟩;obtain⟨cur,hrow,_,rl⟩:=h.row;obtain⟨g,cap,cs,t,hb,_⟩:=h.blk;refine(k.blk i (Array.getElem?_eq_some_iff.1 hi).1 ?_ (λe=>?_)).trans hi
 ·have na:i≠a:=λe=>by
   rw[e,hb]at hi;cases hi;cases ho
  rintro(e|e|e|e|e|e)
  ·exact na e
  ·exact na e
  ·have e':i=M:=e;omega
  ·cases e
  ·cases e
  ·cases e
 ·have e':i=rowOf W a:=e;rw[e',hrow]at hi;cases hi;cases ho
end
theorem OpPost.pair{a9 a M a8 a7:Nat}{w w':World}{ns:List Nd}{g:Nat}{φ:Env->Bool}{e:Ending}(h:OpPost a9 a M a8 a7 w ns g φ e w') :
  ∃(ns':List Nd) (v er:Int),e=.returned (.tuple #[v,er]) /\ Ar a9 a M a8 a7 w' ns' /\ Kp (ca a9 a M a8 a7) w w' /\ Ext ns ns' /\ ns'.length<=ns.length+g /\
    Hid ((er=0 /\ ∃f:Nat,v=(f:Int) /\ f<ns'.length /\ ∀x,ev ns' f x=φ x)\/(er=6 /\ v=0 /\ ns'.length=a7)):=by
 obtain⟨ns',r1,r2,r3,r4,⟨f,e1,e2⟩|⟨e1,e2⟩⟩:=h
 ·exact⟨ns',f,0,e1,r1,r2,r3,r4,Or.inl ⟨rfl,f,rfl,e2⟩⟩
 ·exact⟨ns',0,6,e1,r1,r2,r3,r4,Or.inr ⟨rfl,rfl,e2⟩⟩
theorem Ar.notMine{a9 a M a8 a7:Nat}{w:World}{ns:List Nd}(h:Ar a9 a M a8 a7 w ns){i:Nat}(hi:i<a9):¬(ca a9 a M a8 a7).mine i:=by
 have h1:=h.lowA;have h2:=h.lowM;rintro(e|e|e|e|e|e)
 ·have:i=a:=e;omega
 ·have:i=a:=e;omega
 ·have:i=M:=e;omega
 ·cases e
 ·cases e
 ·cases e
theorem Ar.kp_below{a9 a M a8 a7:Nat}{w w':World}{ns:List Nd}(h:Ar a9 a M a8 a7 w ns)(k:Kp (ca a9 a M a8 a7) w w'):Below a9 w w':=by
 obtain⟨_,_,rb,rl⟩:=h.row;have h1:=h.lowA;have h2:=h.lta;exact⟨k.os,k.tape,k.output,k.size,λi hi=>k.blk i (by omega) (h.notMine hi) (by show i≠rowOf w a;omega)⟩
def JI(a9 a M n0 L:Nat)(v:Value)(w:World)(pre:List IR)(W:World):Prop :=
 ∃(ns:List Nd) (F:Nat),Ar a9 a M 14 40000 W ns /\ F<ns.length /\ (∀x,ev ns F x=ao (pre.map Prod.snd).reverse x) /\ ns.length<=L+pre.length*16427 /\
   Boxed W n0 76 (.pointer a) /\ Boxed W (n0+1) 3 (.int .i64 0) /\ Boxed W (n0+1+1) 33 (.int .i64 0) /\ Boxed W (n0+1+1+1) 3 (.int .i64 (F:Int)) /\ Boxed W (n0+1+1+1+1) 66 v /\ Below a9 w W
def JX(a9 a M n0 L k:Nat)(w:World)(c:Code)(W:World):Prop :=
 c=.ret /\ 40000<=L+k*16427 /\ ∃ns:List Nd,Ar a9 a M 14 40000 W ns /\ Boxed W (n0+1) 3 (.int .i64 0) /\ Boxed W (n0+1+1) 33 (.int .i64 6) /\ Below a9 w W
theorem Box5.own{B:Nat}{r:Rl}{W W':World}{row:Option Nat}(h:Box5 W B r)(hg:W.grownBy W' row)(hr:∀r,row=some r->∃o:Obj,W.heap[r]?=some o /\ o.isCells=false):Box5 W' B r :=
 (grownBy_keeps_cells hg hr h rfl).trans h
theorem Ar.box{a9 a M a8 a7 i:Nat}{W W':World}{ns:List Nd}{t:TypeId}{v:Value}(h:Ar a9 a M a8 a7 W ns)(k:Kp (ca a9 a M a8 a7) W W')(hb:Boxed W i t v)(h1:t≠82 /\ t≠85)(h2:t≠144):Boxed W' i t v:=((h.outBox hb h1 h2).kp k).blk
theorem Ar.box5{a9 a M a8 a7 i:Nat}{W W':World}{ns:List Nd}{r:Rl}(h:Ar a9 a M a8 a7 W ns)(k:Kp (ca a9 a M a8 a7) W W')(hb:Box5 W i r):Box5 W' i r:=((h.outBox hb (by decide) (by decide)).kp k).blk
theorem JI.own{a9 a M n0 L B:Nat}{v:Value}{w:World}(hM:M<B)(hb:a9<=w.heap.size)(hB:a9<=B):OwnFrom B (JI a9 a M n0 L v w):=by
 rintro pre W W' row⟨ns,F,h1,h2,h3,hL,b0,b1,b2,b3,b4,D⟩ hg hr;have hr':∀r,row=some r->∃o:Obj,W.heap[r]?=some o /\ o.isCells=false:=λr e=>(hr r e).2;exact⟨ns,F,h1.book hg hr hM,h2,h3,hL,boxed_own n0 _ (λ_:Unit=>_) () W W' row b0 hg hr',boxed_own _ _ (λ_:Unit=>_) () W W' row b1 hg hr',boxed_own _ _ (λ_:Unit=>_) () W W' row b2 hg hr',boxed_own _ _ (λ_:Unit=>_) () W W' row b3 hg hr',boxed_own _ _ (λ_:Unit=>_) () W W' row b4 hg hr',ownFrom_below hb hB () W W' row D hg hr⟩
theorem JX.own{a9 a M n0 L B:Nat}{w:World}(hM:M<B)(hb:a9<=w.heap.size)(hB:a9<=B)(c:Code):OwnFrom B (λ(pre:List IR) W=>JX a9 a M n0 L pre.length w c W):=by
 rintro pre W W' row⟨e,hL,ns,h1,b1,b2,D⟩ hg hr;have hr':∀r,row=some r->∃o:Obj,W.heap[r]?=some o /\ o.isCells=false:=λr e=>(hr r e).2;exact⟨e,hL,ns,h1.book hg hr hM,boxed_own _ _ (λ_:Unit=>_) () W W' row b1 hg hr',boxed_own _ _ (λ_:Unit=>_) () W W' row b2 hg hr',ownFrom_below hb hB () W W' row D hg hr⟩
structure RS(a9 a M n0 B Bx F:Nat)(r:Rl)(v:Value)(w W1:World)(ns:List Nd)(W:World):Prop where
 ar:Ar a9 a M 14 40000 W ns
 b0:Boxed W n0 76 (.pointer a)
 b1:Boxed W (n0+1) 3 (.int .i64 0)
 b2:Boxed W (n0+1+1) 33 (.int .i64 0)
 b3:Boxed W (n0+1+1+1) 3 (.int .i64 (F:Int))
 b4:Boxed W (n0+1+1+1+1) 66 v
 bx:Box5 W Bx r
 low:Below a9 w W
 kf:KeepsFrom B W1 W
 kb:Below a9 W1 W
 mB:M<B
 bn:a9<=n0
section
variable {a9 a M n0 B Bx F:Nat}{r:Rl}{v:Value}{w W1 W W':World}{ns ns':List Nd}
theorem RS.step(h:RS a9 a M n0 B Bx F r v w W1 ns W)(k:Kp (ca a9 a M 14 40000) W W')(A:Ar a9 a M 14 40000 W' ns'):RS a9 a M n0 B Bx F r v w W1 ns' W' :=
 ⟨A,h.ar.box k h.b0 (by decide) (by decide),h.ar.box k h.b1 (by decide) (by decide),h.ar.box k h.b2 (by decide) (by decide),h.ar.box k h.b3 (by decide) (by decide),h.ar.box k h.b4 (by decide) (by decide),h.ar.box5 k h.bx,
  h.low.trans (h.ar.kp_below k),h.kf.trans (k.keepsFrom h.ar h.mB),h.kb.trans (h.ar.kp_below k),h.mB,h.bn⟩
theorem RS.below(h:RS a9 a M n0 B Bx F r v w W1 ns W)(hb:Below W W W'):RS a9 a M n0 B Bx F r v w W1 ns W':=h.step (h.ar.kbelow hb) (h.ar.below hb)
theorem RS.drew(h:RS a9 a M n0 B Bx F r v w W1 ns W):RS a9 a M n0 B Bx F r v w W1 ns W.drew :=
 ⟨h.ar.drew',h.b0,h.b1,h.b2,h.b3,h.b4,h.bx,h.low.drew,h.kf.trans ((KeepsOthers.drew _).from _),h.kb.drew,h.mB,h.bn⟩
theorem RS.four(h:RS a9 a M n0 B Bx F r v w W1 ns W):W.cell? ⟨n0,0,none⟩=some (.pointer a) /\ W.cell? ⟨Bx,0,none⟩=some (.bool r.ok) /\ W.cell? ⟨Bx,1,none⟩=some (.int .u16 (r.a:Int)) /\ W.cell? ⟨Bx,2,none⟩=some (.int .u16 (r.b:Int)) /\ W.cell? ⟨Bx,3,none⟩=some (.int .u8 (r.c:Int)) /\ W.cell? ⟨Bx,4,none⟩=some (.int .u8 (r.d:Int)):=⟨h.b0.cell,h.bx.cells⟩
structure RT(a9 a M n0 B Bx:Nat)(u:Int)(r:Rl)(v:Value)(w W1:World)(ns:List Nd)(W:World):Prop where
 ar:Ar a9 a M 14 40000 W ns
 b0:Boxed W n0 76 (.pointer a)
 b1:Boxed W (n0+1) 3 (.int .i64 0)
 b2:Boxed W (n0+1+1) 33 (.int .i64 0)
 b3:Boxed W (n0+1+1+1) 3 (.int .i64 u)
 b4:Boxed W (n0+1+1+1+1) 66 v
 bx:Box5 W Bx r
 low:Below a9 w W
 kf:KeepsFrom B W1 W
 kb:Below a9 W1 W
theorem RT.four{u:Int}(h:RT a9 a M n0 B Bx u r v w W1 ns W):W.cell? ⟨n0,0,none⟩=some (.pointer a) /\ W.cell? ⟨Bx,0,none⟩=some (.bool r.ok) /\ W.cell? ⟨Bx,1,none⟩=some (.int .u16 (r.a:Int)) /\ W.cell? ⟨Bx,2,none⟩=some (.int .u16 (r.b:Int)) /\ W.cell? ⟨Bx,3,none⟩=some (.int .u8 (r.c:Int)) /\ W.cell? ⟨Bx,4,none⟩=some (.int .u8 (r.d:Int)):=⟨h.b0.cell,h.bx.cells⟩
theorem Ar.setBox{a8 a7 i:Nat}{t:TypeId}{x:Value}(h:Ar a9 a M a8 a7 W ns)(hb:Boxed W i t x)(h1:t≠82 /\ t≠85)(h2:t≠144)(u:Value):Ar a9 a M a8 a7 (W.setCell ⟨i,0,none⟩ u) ns:=by
 have L:=h.outBox hb h1 h2;obtain⟨_,_,_,rl⟩:=h.row;exact h.same (Below.heap_setCell W _ u a (λe=>L.out.not (Or.inl e.symm))) (Below.heap_setCell W _ u M (λe=>L.out.not (Or.inr (Or.inr (Or.inl e.symm))))) (Below.heap_setCell W _ u _ (λe=>L.out.ne e.symm))
theorem RS.set(h:RS a9 a M n0 B Bx F r v w W1 ns W)(u:Int):RT a9 a M n0 B Bx u r v w W1 ns (W.setCell ⟨n0+1+1+1,0,none⟩ (.int .i64 u)):=by
 have hx:n0+1+1+1≠Bx:=λe=>by
  have h1:=h.b3;have h2:=h.bx;unfold Boxed at h1;unfold Box5 at h2;rw[e,h2]at h1;simp at h1
 have hbn:=h.bn;exact⟨h.ar.setBox h.b3 (by decide) (by decide) _,h.b0.other (by omega) _,h.b1.other (by omega) _,h.b2.other (by omega) _,h.b3.set _,h.b4.other (by omega) _,(Below.heap_setCell W _ _ Bx (λe=>hx e.symm)).trans h.bx,
  h.low.setCell (p:=⟨n0+1+1+1,0,none⟩) (by show a9<=n0+1+1+1;omega) _,h.kf.trans ((KeepsOthers.setCell _ _ _).from _),h.kb.setCell (p:=⟨n0+1+1+1,0,none⟩) (by show a9<=n0+1+1+1;omega) _⟩
theorem RS.rt(h:RS a9 a M n0 B Bx F r v w W1 ns W):RT a9 a M n0 B Bx (F:Int) r v w W1 ns W:=⟨h.ar,h.b0,h.b1,h.b2,h.b3,h.b4,h.bx,h.low,h.kf,h.kb⟩
theorem RT.two{u:Int}(h:RT a9 a M n0 B Bx u r v w W1 ns W):W.cell? ⟨n0+1,0,none⟩=some (.int .i64 0) /\ W.frozen? ⟨n0+1,0,none⟩=false /\ (W.setCell ⟨n0+1,0,none⟩ (.int .i64 0)).cell? ⟨n0+1+1,0,none⟩=some (.int .i64 0) /\ (W.setCell ⟨n0+1,0,none⟩ (.int .i64 0)).frozen? ⟨n0+1+1,0,none⟩=false :=
 ⟨h.b1.cell,h.b1.frozen,(h.b2.other (by omega) _).cell,(h.b2.other (by omega) _).frozen⟩
theorem RT.err{u:Int}{L k:Nat}(h:RT a9 a M n0 B Bx u r v w W1 ns W)(bn:a9<=n0)(hL:40000<=L+k*16427):KeepsFrom B W1 ((W.setCell ⟨n0+1,0,none⟩ (.int .i64 0)).setCell ⟨n0+1+1,0,none⟩ (.int .i64 6)) /\ JX a9 a M n0 L k w .ret ((W.setCell ⟨n0+1,0,none⟩ (.int .i64 0)).setCell ⟨n0+1+1,0,none⟩ (.int .i64 6)):=by
 have b2':=h.b2.other (B':=n0+1) (by omega) (.int .i64 0);refine⟨h.kf.trans (((KeepsOthers.setCell _ _ _).trans (KeepsOthers.setCell _ _ _)).from _),rfl,hL,ns,(h.ar.setBox h.b1 (by decide) (by decide) _).setBox b2' (by decide) (by decide) _,(h.b1.set _).other (by omega) _,b2'.set _,?_⟩;exact(h.low.setCell (p:=⟨n0+1,0,none⟩) (by show a9<=n0+1;omega) _).setCell (p:=⟨n0+1+1,0,none⟩) (by show a9<=n0+1+1;omega) _
end
theorem putD{a9 a M n0 D:Nat}{w W:World}{ns:List Nd}{u x:Value}{o:Obj}(A:Ar a9 a M 14 40000 W ns)(b1:Boxed W (n0+1) 3 u)(b2:Boxed W (n0+1+1) 33 x)(D1:Below a9 w W)(hK:W.heap[D]?=some (.deferred (some [])))(hD:n0+5<=D)(hM:M<n0)(hb:a9<=n0) :
  Ar a9 a M 14 40000 (W.putObj D o) ns /\ (W.putObj D o).cell? ⟨n0+1,0,none⟩=some u /\ (W.putObj D o).cell? ⟨n0+1+1,0,none⟩=some x /\ Below a9 w (W.putObj D o):=by
 have g:=grownBy_putObj' W D o;have hD':D<W.heap.size:=(Array.getElem?_eq_some_iff.1 hK).1;exact⟨A.book (B:=n0) g (λr e=>by cases e;exact⟨by omega,_,hK,rfl⟩) hM,(b1.kept g (λe=>by cases e;omega)).cell,(b2.kept g (λe=>by cases e;omega)).cell,D1.grown g (by omega) (λk e=>by cases e;omega)⟩
theorem oF{a9 a M:Nat}{w:World}{ns:List Nd}(h:Ar a9 a M 14 40000 w ns)(A:Option Addr)(len cap:Nat)(xs:List Rl)(hR:Rules a9 w (.slice A len cap) xs)(hlen:xs.length<=8) :
  Cl 215 #[.pointer a,.slice A len cap] w λe w'=>∃ns',Ar a9 a M 14 40000 w' ns' /\ Below a9 w w' /\
   ((∃f:Nat,e=.returned (.tuple #[(f:Int),.int .i64 0]) /\ f<ns'.length /\ ∀x,ev ns' f x=ao xs x)\/(e=.returned (.tuple #[.int .i64 0,.int .i64 6]) /\ 40000<=ns.length+xs.length*16427)):=by
 refine(callsIn_wide (n:=4)).1 ?_;refine callsIn_of_wp_marks func215 rfl trivial ?_ rfl;simp only[ntmps215,List.size_toArray,List.length_cons,List.length_nil,Nat.reduceAdd,Nat.reduceSub,Array.replicate_succ,Array.replicate_zero,List.push_toArray,List.append_toArray,List.nil_append,List.cons_append]
 gi_wp2_with (refine⟨trivial,?_⟩;gi_at_call 220;refine(vq Fence.wide _ trivial rfl _ _ _ _).mono ?_;rintro e w'⟨rfl,rfl⟩)
 have ltM:=h.ltM;have lta:=h.lta;have lowA:=h.lowA;have q0:=((((Boxed.new w 76 (.pointer a)).alloc (.cells #[.int .i64 0] 3)).alloc (.cells #[.int .i64 0] 33)).alloc (.cells #[.int .i64 0] 3)).alloc (.cells #[.slice A len cap] 66);have q1:=(((Boxed.new (w.alloc (.cells #[.pointer a] 76)) 3 (.int .i64 0)).alloc (.cells #[.int .i64 0] 33)).alloc (.cells #[.int .i64 0] 3)).alloc (.cells #[.slice A len cap] 66);have q2:=((Boxed.new ((w.alloc (.cells #[.pointer a] 76)).alloc (.cells #[.int .i64 0] 3)) 33 (.int .i64 0)).alloc (.cells #[.int .i64 0] 3)).alloc (.cells #[.slice A len cap] 66);have q3:=(Boxed.new (((w.alloc (.cells #[.pointer a] 76)).alloc (.cells #[.int .i64 0] 3)).alloc (.cells #[.int .i64 0] 33)) 3 (.int .i64 0)).alloc (.cells #[.slice A len cap] 66);have q4:=Boxed.new ((((w.alloc (.cells #[.pointer a] 76)).alloc (.cells #[.int .i64 0] 3)).alloc (.cells #[.int .i64 0] 33)).alloc (.cells #[.int .i64 0] 3)) 66 (.slice A len cap);simp only[World.size_alloc]at q1 q2 q3 q4;have D0:Below a9 w (((((w.alloc (.cells #[.pointer a] 76)).alloc (.cells #[.int .i64 0] 3)).alloc (.cells #[.int .i64 0] 33)).alloc (.cells #[.int .i64 0] 3)).alloc (.cells #[.slice A len cap] 66)) :=
  (((((Below.refl _ w).alloc (by omega) _).alloc (by simp;omega) _).alloc (by simp;omega) _).alloc (by simp;omega) _).alloc (by simp;omega) _
 have A0:Ar a9 a M 14 40000 (((((w.alloc (.cells #[.pointer a] 76)).alloc (.cells #[.int .i64 0] 3)).alloc (.cells #[.int .i64 0] 33)).alloc (.cells #[.int .i64 0] 3)).alloc (.cells #[.slice A len cap] 66)) ns:=((((h.alloc _).alloc _).alloc _).alloc _).alloc _;have hsz:(((((w.alloc (.cells #[.pointer a] 76)).alloc (.cells #[.int .i64 0] 3)).alloc (.cells #[.int .i64 0] 33)).alloc (.cells #[.int .i64 0] 3)).alloc (.cells #[.slice A len cap] 66)).heap.size=w.heap.size+5:=by simp
 obtain⟨W0,hW0⟩:∃W0,(((((w.alloc (.cells #[.pointer a] 76)).alloc (.cells #[.int .i64 0] 3)).alloc (.cells #[.int .i64 0] 33)).alloc (.cells #[.int .i64 0] 3)).alloc (.cells #[.slice A len cap] 66))=W0:=⟨_,rfl⟩;rw[hW0]at q0 q1 q2 q3 q4 D0 A0 hsz ⊢;clear hW0;have l2:=h.wf.len;refine wpIn_rangeFunc_ownH rfl (by omega) (gf:=225) (lb:=#[.pointer (some ⟨w.heap.size+1+1+1+1,0,none⟩)]) rfl trivial (enters_of func225 (by kernel_rfl) rfl)
  (vu Fence.wide 3 trivial rfl (by omega) (w.heap.size+1+1+1+1) a9 (.slice A len cap) xs (by omega) W0 (by omega) q4 (hR.below D0)) nQ
  (λW l o o' hl ho hc _=>⟨(Below.refl a9 W).grown (grownBy_putObj' W l o') (by have:=(Array.getElem?_eq_some_iff.1 ho).1;omega) (λk e=>by cases e;omega),λb=>b.kept (grownBy_putObj' W l o') (λe=>by cases e;omega)⟩)
  (Below.refl _ _) (λ_=>rfl)
  (JI a9 a M w.heap.size ns.length (.slice A len cap) w) (λc pre W=>JX a9 a M w.heap.size ns.length pre.length w c W)
  (JI.own (by omega) (by omega) (by omega)) (λc=>JX.own (by omega) (by omega) (by omega) c)
  ⟨ns,0,A0,by omega,(λx=>rfl),by simp,q0,q1,q2,q3,q4,D0⟩
  (λx a' W=>∃Bx,Box5 W Bx x.2 /\ a'={ tmps:=#[.pointer a,.slice A len cap,.pointer (some ⟨w,0,none⟩),undef,.pointer (some ⟨w.heap.size+1,0,none⟩),.pointer (some ⟨w.heap.size+1+1,0,none⟩),.pointer (some ⟨w.heap.size+1+1+1,0,none⟩),undef,.pointer (some ⟨Bx,0,none⟩),undef,undef,.slice A len cap,.func (.func 225) #[] #[.pointer (some ⟨w.heap.size+1+1+1+1,0,none⟩)],.int .i64 (x.1:Int),rv x.2,undef,undef,undef,undef,undef,undef,undef,undef,undef,undef,undef,undef,undef,undef,undef,undef,undef,undef,undef,undef,undef,undef,undef],defers:=[] })
  (λx a' _ X Y row hs hg hr=>by obtain⟨Bx,h1,h2⟩:=hs;exact⟨Bx,h1.own hg (λr e=>(hr r e).2),h2⟩)
  ?assign ?body ?done ?stop
 case assign =>
  rintro l pre x W K⟨ns1,F1,A1,lF,eF,hL,b0,b1,b2,b3,b4,D1⟩ hK;have hsW:=D1.size;obtain⟨i,⟨ok,ra,rb,rc,rd,g1,g2,g3,g4⟩⟩:=x;dsimp only[iY]
  gi_wp2
  exact hK _ _ ((KeepsOthers.alloc _ _).from _) ⟨(Below.refl _ W).alloc (by omega) _,λb=>b.alloc _⟩ ⟨ns1,F1,A1.alloc _,lF,eF,hL,b0.alloc _,b1.alloc _,b2.alloc _,b3.alloc _,b4.alloc _,D1.alloc (by omega) _⟩ ⟨W,Go.heap_alloc_new W _,rfl⟩
 case body =>
  rintro l pre x a' W hl⟨r0,hr0⟩ ⟨ns1,F1,A1,lF,eF,hL,b0,b1,b2,b3,b4,D1⟩ ⟨Bx,bX,rfl⟩ hlt;obtain⟨xi,r⟩:=x;have s1:RS a9 a M w.heap.size W0.heap.size Bx F1 r (.slice A len cap) w W ns1 W:=⟨A1,b0,b1,b2,b3,b4,bX,D1,KeepsFrom.refl _ _,Below.refl _ _,by omega,by omega⟩;clear A1 b0 b1 b2 b3 b4 bX;obtain⟨cA,x0,x1,x2,x3,x4⟩:=s1.four
  gi_wp2
  refine⟨trivial,(CallsIn.inRound l (callsIn_wide.2 (iR s1.ar (Nat.le_refl _) r.a r.b r.c r.d r.ha r.hb r.hc r.hd))).mono ?_⟩;rintro e W2 hp2;obtain⟨ns2,g2,er2,rfl,A2,K2,X2,hL2,d2⟩:=hp2.pair;have s2:=s1.step K2 A2;have wf1:=s1.ar.wf;clear hp2 A2 K2 cA x0 x1 x2 x3 x4 s1;obtain⟨cA,x0,x1,x2,x3,x4⟩:=s2.four;obtain⟨c1,f1,c2,f2⟩:=s2.rt.two;have c3:=s2.b3.cell;rcases d2.out with⟨rfl,F2,rfl,lt2,_,ev2⟩|⟨rfl,rfl,full2⟩
  ·have lF2:F1<ns2.length:=Nat.lt_of_lt_of_le lF X2.len;have wf2:=s2.ar.wf;have l2':=wf2.len;have EF:Hid (∀x,ev ns2 F1 x=ao (pre.map Prod.snd).reverse x):=λx=>(X2.ev wf1 wf2 _ lF x).trans (eF x);have EV:Hid (∀x,ev ns2 F2 x=phi r.a r.b r.c r.d x):=ev2;have IT:Hid (∀w' (q:Nat),Hid (q=if r.ok then 1 else 0)->RS a9 a M w.heap.size W0.heap.size Bx F1 r (.slice A len cap) w W ns2 w'->Cl 141 #[.pointer a,(F2:Int),(q:Int),(F1:Int)] w' λe w''=>∃(ns':List Nd) (v er:Int),e=.returned (.tuple #[v,er]) /\ Ar a9 a M 14 40000 w'' ns' /\ Kp (ca a9 a M 14 40000) w' w'' /\ Ext ns2 ns' /\ ns'.length<=ns2.length+(2 ^ 14-1) /\
     Hid ((er=0 /\ ∃f:Nat,v=(f:Int) /\ f<ns'.length /\ ∀x,ev ns' f x=ao ((pre++[(xi,r)]).map Prod.snd).reverse x)\/(er=6 /\ v=0 /\ ns'.length=40000))):=λw' q hq hs=>by
    have hq':q=if r.ok then 1 else 0:=hq
    refine(uh hs.ar (c:=(F2,q,F1)) ⟨lt2,by show q<_;rw[hq'];split <;> omega,lF2⟩).mono λe w'' hp=>(hp.of (ψ:=λx=>ao ((pre++[(xi,r)]).map Prod.snd).reverse x) (λx=>?_)).pair;rw[xN,<- EF.out,EV.out,hq'];cases r.ok
    ·simp[ev0]
    ·simp[ev1]
   have s2d:=s2.drew;clear ev2 eF d2 EF EV
   gi_wp2
   refine uv (S:=(λw'=>w'.cell? ⟨w,0,none⟩=some (.pointer a) /\ w'.cell? ⟨Bx,0,none⟩=some (.bool r.ok) /\ w'.cell? ⟨Bx,1,none⟩=some (.int .u16 (r.a:Int)) /\ w'.cell? ⟨Bx,2,none⟩=some (.int .u16 (r.b:Int)) /\ w'.cell? ⟨Bx,3,none⟩=some (.int .u8 (r.c:Int)) /\ w'.cell? ⟨Bx,4,none⟩=some (.int .u8 (r.d:Int)))) (by kernel_rfl) (by kernel_rfl) (λ⟨_,_,e⟩=>e) (RS.four ‹_›) (λhHeld=>?_);refine tk 0 ?_;try simp only[ly]
   refine tk 1 ?_;try simp only[ly]
   refine tk 2 ?_;try simp only[ly]
   refine wpAnyH_ready (rs:=[3,4]) (by kernel_rfl) (by simp) ?_;refine AllReadyH.cons rfl (λK hK=>?_) ?_
   ·go_simp;refine(oE r _).mono ?_;rintro e wz⟨q,rfl,hq,hbz⟩;have sz:=RS.below (F:=F1) ‹_› hbz;clear hbz;have cz:=sz.b3.cell;try go_wp2_with fail
    clear hHeld;refine hK.out _ _ (by first|exact RS.four ‹_›|exact RT.four ‹_›) (λhHeld=>?_);clear hK K;try simp only[ly]
    refine rd 4 (λK hK=>?_);go_simp;skip
    try go_wp2_with fail
    clear hHeld;refine hK.out _ _ (by first|exact RS.four ‹_›|exact RT.four ‹_›) (λhHeld=>?_);clear hK K;try simp only[ly]
    refine rd 5 (λK hK=>?_);go_simp;refine(IT.out _ q hq ‹_›).mono ?_;rintro e wy⟨ns3,v3,er3,rfl,A3,K3,X3,hL3,d3⟩;have sy:=RS.step (F:=F1) ‹_› K3 A3;have cy:=sy.b3.cell;have fy:=sy.b3.frozen;clear K3 A3;try go_wp2_with fail
    clear hHeld;refine hK.out _ _ (by first|exact RS.four ‹_›|exact RT.four ‹_›) (λhHeld=>?_);clear hK K;try simp only[ly]
    refine tk 6 ?_;try simp only[ly]
    refine tk 7 ?_;try simp only[ly]
    refine tk 8 ?_;try simp only[ly]
    refine rd 9 (λK hK=>?_);go_simp;have su:=RS.set (F:=F1) ‹_› v3;try go_wp2_with fail
    clear hHeld;refine hK.out _ _ (by first|exact RS.four ‹_›|exact RT.four ‹_›) (λhHeld=>?_);clear hK K;try simp only[ly]
    refine tk 10 ?_;try simp only[ly]
    refine wpAnyH_done (by kernel_rfl) ?_ _;obtain⟨y1,y2,y3,y4⟩:=su.two;have hlp:(pre++[(xi,r)]).length=pre.length+1:=by simp
    have hL4:ns3.length<=ns.length+(pre++[(xi,r)]).length*16427:=by rw[hlp];omega
    rcases d3.out with⟨rfl,F3,rfl,lt3,ev3⟩|⟨rfl,rfl,full3⟩
    ·have fin:Hid (JI a9 a M w.heap.size ns.length (.slice A len cap) w (pre++[(xi,r)]) (wy.setCell ⟨w.heap.size+1+1+1,0,none⟩ (.int .i64 (F3:Int)))):=⟨ns3,F3,su.ar,lt3,ev3,hL4,su.b0,su.b1,su.b2,su.b3,su.b4,su.low⟩;have kf:=su.kf;have kb:=su.kb;have b4:=su.b4;clear su d3 ev3 sy IT hL4 hlp
     gi_wp2
     exact⟨kf,⟨kb,λ_=>b4⟩,fin.out⟩
    ·have fin:Hid _:=su.err (L:=ns.length) (k:=(pre++[(xi,r)]).length) (by omega) (by omega);clear d3 sy IT hL4 hlp
     gi_wp2
     exact fin.out
   refine AllReadyH.cons rfl (λK hK=>?_) AllReadyH.nil;go_simp;skip
   try go_wp2_with fail
   clear hHeld;refine hK.out _ _ (by first|exact RS.four ‹_›|exact RT.four ‹_›) (λhHeld=>?_);clear hK K;try simp only[ly]
   refine rd 3 (λK hK=>?_);go_simp;refine(oE r _).mono ?_;rintro e wz⟨q,rfl,hq,hbz⟩;have sz:=RS.below (F:=F1) ‹_› hbz;clear hbz;have cz:=sz.b3.cell;try go_wp2_with fail
   clear hHeld;refine hK.out _ _ (by first|exact RS.four ‹_›|exact RT.four ‹_›) (λhHeld=>?_);clear hK K;try simp only[ly]
   refine rd 5 (λK hK=>?_);go_simp;refine(IT.out _ q hq ‹_›).mono ?_;rintro e wy⟨ns3,v3,er3,rfl,A3,K3,X3,hL3,d3⟩;have sy:=RS.step (F:=F1) ‹_› K3 A3;have cy:=sy.b3.cell;have fy:=sy.b3.frozen;clear K3 A3;try go_wp2_with fail
   clear hHeld;refine hK.out _ _ (by first|exact RS.four ‹_›|exact RT.four ‹_›) (λhHeld=>?_);clear hK K;try simp only[ly]
   refine tk 6 ?_;try simp only[ly]
   refine tk 7 ?_;try simp only[ly]
   refine tk 8 ?_;try simp only[ly]
   refine rd 9 (λK hK=>?_);go_simp;have su:=RS.set (F:=F1) ‹_› v3;try go_wp2_with fail
   clear hHeld;refine hK.out _ _ (by first|exact RS.four ‹_›|exact RT.four ‹_›) (λhHeld=>?_);clear hK K;try simp only[ly]
   refine tk 10 ?_;try simp only[ly]
   refine wpAnyH_done (by kernel_rfl) ?_ _;obtain⟨y1,y2,y3,y4⟩:=su.two;have hlp:(pre++[(xi,r)]).length=pre.length+1:=by simp
   have hL4:ns3.length<=ns.length+(pre++[(xi,r)]).length*16427:=by rw[hlp];omega
   rcases d3.out with⟨rfl,F3,rfl,lt3,ev3⟩|⟨rfl,rfl,full3⟩
   ·have fin:Hid (JI a9 a M w.heap.size ns.length (.slice A len cap) w (pre++[(xi,r)]) (wy.setCell ⟨w.heap.size+1+1+1,0,none⟩ (.int .i64 (F3:Int)))):=⟨ns3,F3,su.ar,lt3,ev3,hL4,su.b0,su.b1,su.b2,su.b3,su.b4,su.low⟩;have kf:=su.kf;have kb:=su.kb;have b4:=su.b4;clear su d3 ev3 sy IT hL4 hlp
    gi_wp2
    exact⟨kf,⟨kb,λ_=>b4⟩,fin.out⟩
   ·have fin:Hid _:=su.err (L:=ns.length) (k:=(pre++[(xi,r)]).length) (by omega) (by omega);clear d3 sy IT hL4 hlp
    gi_wp2
    exact fin.out
  ·have fin:=s2.rt.err (L:=ns.length) (k:=(pre++[(xi,r)]).length) (by omega) (by simp;omega);clear d2
   gi_wp2
   exact fin
 case done =>
  rintro D ys W hD rfl⟨ns1,F1,A1,lF,eF,_,b0,b1,b2,b3,b4,D1⟩ hK;have eF':Hid (∀x,ev ns1 F1 x=ao xs x):=λx=>by rw[eF x,xM]
  clear eF;have hD':D<W.heap.size:=(Array.getElem?_eq_some_iff.1 hK).1;have e1:=(b1.set (.int .i64 (F1:Int))).other (B':=w.heap.size+1+1) (by omega) (.int .i64 0);have b2':=b2.other (B':=w.heap.size+1) (by omega) (.int .i64 (F1:Int));have e2:=b2'.set (.int .i64 0);have A2:=(A1.setBox b1 (by decide) (by decide) (.int .i64 (F1:Int))).setBox b2' (by decide) (by decide) (.int .i64 0);have D2:=(D1.setCell (p:=⟨w.heap.size+1,0,none⟩) (by show a9<=w.heap.size+1;omega) (.int .i64 (F1:Int))).setCell (p:=⟨w.heap.size+1+1,0,none⟩) (by show a9<=w.heap.size+1+1;omega) (.int .i64 0);have hK':=((KeepsOthers.setCell W ⟨w.heap.size+1,0,none⟩ (.int .i64 (F1:Int))).trans (KeepsOthers.setCell _ ⟨w.heap.size+1+1,0,none⟩ (.int .i64 0))).same D _ hK rfl;have c1:=b1.cell;have f1:=b1.frozen;have c2:=b2'.cell;have f2:=b2'.frozen;have c3:=b3.cell
  gi_wp2
  refine⟨by simp,.inl ⟨_,_,rfl,run_takeDeferred hK',?_⟩⟩;obtain⟨A3,r1,r2,D3⟩:=putD (o:=.deferred none) A2 e1 e2 D2 hK' (by omega) (by omega) (by omega);exact⟨.tuple #[(F1:Int),.int .i64 0],by simp[results,results215,go_sem,r1,r2],ns1,A3,D3,.inl ⟨F1,rfl,lF,eF'.out⟩⟩
 case stop =>
  rintro D c pre W hD⟨k,hk,rfl⟩ ⟨rfl,hL,ns1,A1,b1,b2,D1⟩ hK;rw[came_length]at hL;have hL':40000<=ns.length+xs.length*16427:=by
   have:=Nat.mul_le_mul_right 16427 hk;omega
  gi_wp2
  refine⟨by simp,.inl ⟨_,_,rfl,run_takeDeferred hK,?_⟩⟩;obtain⟨A3,r1,r2,D3⟩:=putD (o:=.deferred none) A1 b1 b2 D1 hK (by omega) (by omega) (by omega);exact⟨.tuple #[.int .i64 0,.int .i64 6],by simp[results,results215,go_sem,r1,r2],ns1,A3,D3,.inr ⟨rfl,hL'⟩⟩
end Go.Proofs.YtjmclcmgpaofiaaGreat
namespace Go.Proofs.YtjmclcmgpaofiaaGreat
open Tryz
open Go.RowKit Go.Maps
structure IsTk(ns ns2:List Nd)(f g:Nat):Prop where
 ltf:f<ns2.length
 lt:g<ns.length
 ev:∀e,ev ns g e=ev ns2 f e
 va:nv ns2 f<=nv ns g
section
variable {a8 v2:Nat}{ns ns' ns2:List Nd}
theorem IsTk.ext{f g:Nat}(h:IsTk ns ns2 f g)(X:Ext ns ns')(wf:Wf a8 ns)(wf':Wf a8 ns'):IsTk ns' ns2 f g:=by
 have hl:=X.len;have lt:=h.lt;refine⟨h.ltf,by omega,λe=>?_,?_⟩
 ·rw[X.ev wf wf' _ h.lt];exact h.ev e
 ·rw[X.va h.lt];exact h.va
def MemoT(ns ns2:List Nd)(m:Nat->Option Nat):Prop:=∀f g,m f=some g->IsTk ns ns2 f g
theorem MemoT.ext{m:Nat->Option Nat}(h:MemoT ns ns2 m)(X:Ext ns ns')(wf:Wf a8 ns)(wf':Wf a8 ns'):MemoT ns' ns2 m:=λc f e=>(h c f e).ext X wf wf'
theorem MemoT.upd{m:Nat->Option Nat}(h:MemoT ns ns2 m){c f:Nat}(hf:IsTk ns ns2 c f):MemoT ns ns2 (upd m c f):=by
 intro d g hg;unfold YtjmclcmgpaofiaaGreat.upd at hg;by_cases e:d=c
 ·subst e;rw[if_pos rfl]at hg;cases hg;exact hf
 ·rw[if_neg e]at hg;exact h d g hg
theorem oG(wf:Wf a8 ns)(wf2:Wf v2 ns2)(hv:v2<=a8){f:Nat}(hf:f<=1):IsTk ns ns2 f f:=by
 have l1:=wf.len;have l2:=wf2.len
 match f,hf with
 | 0,_=>exact⟨by omega,by omega,λe=>rfl,by simp[nv,wf.n0,wf2.n0];exact hv⟩
 | 1,_=>exact⟨by omega,by omega,λe=>by rw[ev1,ev1],by simp[nv,wf.n1,wf2.n1];exact hv⟩
theorem xP(wf2:Wf v2 ns2){f l u g:Nat}(f2:2<=f)(hf:f<ns2.length)(h0:IsTk ns ns2 (nl ns2 f) l)(h1:IsTk ns ns2 (nh ns2 f) u)(hn:IsNode ns (nv ns2 f) l u g):IsTk ns ns2 f g :=
 ⟨hf,hn.lt,λe=>by rw[hn.ev,h0.ev,h1.ev,cE wf2 f2 hf],hn.va⟩
end
structure Fr(C:Cfg)(w:World)(base2 a2 M2 v2 most2:Nat)(ns2:List Nd):Prop where
 ar:Ar base2 a2 M2 v2 most2 w ns2
 oa:Out C w a2
 oM:Out C w M2
 or:Out C w (rowOf w a2)
section
variable {C:Cfg}{w w':World}{base2 a2 M2 v2 most2:Nat}{ns2:List Nd}
theorem Fr.kp(h:Fr C w base2 a2 M2 v2 most2 ns2)(k:Kp C w w'):Fr C w' base2 a2 M2 v2 most2 ns2:=by
 have e:w'.heap[a2]?=w.heap[a2]?:=k.blk a2 h.oa.lt h.oa.not h.oa.ne;refine⟨h.ar.same e (k.blk M2 h.oM.lt h.oM.not h.oM.ne) (k.blk _ h.or.lt h.or.not h.or.ne),h.oa.kp k,h.oM.kp k,?_⟩;rw[aQ e];exact h.or.kp k
def jk(C:Cfg)(w:World)(ns ns2:List Nd)(d9:Bool)(N:Nat)(m1:Nd->Option Nat)(m2:Mx->Option Nat)(f:Nat)(g:Nat)(e:Ending)(w':World):Prop :=
 ∃r ns' full' N' m3',e=.returned (.int .i64 ((r:Nat):Int)) /\ At C w w' ns' full' N' m1 m2 m3' /\ Ext ns ns' /\ ns'.length<=ns.length+g /\ N'<=N+g /\ r<ns'.length /\ (d9=true->full'=true) /\ (full'=false->MemoT ns' ns2 m3' /\ IsTk ns' ns2 f r)
variable {ns:List Nd}{N:Nat}{m1:Nd->Option Nat}{m2:Mx->Option Nat}{m3:Nat->Option Nat}
theorem oH(h:Bu C w ns true N m1 m2 m3)(f:Nat) :
  CS 140 #[.pointer (some ⟨C.b,0,none⟩),.pointer a2,(f:Int)] w (.int .i64 0):=by
 obtain⟨b0,b1,b2,b3,b4,bf⟩:=h.reads;clear h;go_enter func140,ntmps140;go_wp2_with fail;go_ret;exact⟨rfl,rfl⟩
theorem take_small(h:Bu C w ns false N m1 m2 m3){f:Nat}(hf:f<=1) :
  CS 140 #[.pointer (some ⟨C.b,0,none⟩),.pointer a2,(f:Int)] w (.int .i64 (f:Int)):=by
 obtain⟨b0,b1,b2,b3,b4,bf⟩:=h.reads;have t1:decide ((f:Int)<=1)=true:=by simp;omega
 clear h;go_enter func140,ntmps140;go_wp2_with fail;go_ret;exact⟨rfl,rfl⟩
theorem xQ(h:Bu C w ns false N m1 m2 m3){c3:Nat}(hc3:C.c3=some c3){f r:Nat}(f2:2<=f)(hf:f<9223372036854775808)(hr:m3 f=some r) :
  CS 140 #[.pointer (some ⟨C.b,0,none⟩),.pointer a2,(f:Int)] w (.int .i64 (r:Int)):=by
 obtain⟨b0,b1,b2,b3,b4,bf⟩:=h.reads;have t1:decide ((f:Int)<=1)=false:=by simp;omega
 have hlook:=(h.o3 c3 hc3).look tz4 (x:=f) (by show f<_;omega);rw[hr]at hlook;simp only[aH,Option.getD_some,Option.isSome_some]at hlook;rw[hc3]at b4;clear h;go_enter func140,ntmps140;go_wp2_with fail;go_ret;exact⟨rfl,rfl⟩
theorem xR(h:Bu C w ns false N m1 m2 m3)(F:Fr C w base2 a2 M2 v2 most2 ns2)(hv2:v2<=C.a8){c3:Nat}(hc3:C.c3=some c3){f k:Nat}(f2:2<=f)(hf:f<ns2.length)(hr:m3 f=none){S:Nat->Bool}(hk:Fit1 S v2 ns2 f (k+1))(hmt:MemoT ns ns2 m3)(hN:N+2 ^ (k+1)<=1099511627776)
  (ih:Hq (∀w ns d9 N m3 f,Bu C w ns d9 N m1 m2 m3->Fr C w base2 a2 M2 v2 most2 ns2->f<ns2.length->Fit1 S v2 ns2 f k->(d9=false->MemoT ns ns2 m3)->N+2 ^ k<=1099511627776->Cl 140 #[.pointer (some ⟨C.b,0,none⟩),.pointer a2,(f:Int)] w (jk C w ns ns2 d9 N m1 m2 f (2 ^ k-1)))) :
  Cl 140 #[.pointer (some ⟨C.b,0,none⟩),.pointer a2,(f:Int)] w (jk C w ns ns2 false N m1 m2 f (2 ^ (k+1)-1)):=by
 have hA:=(At.refl h).alloc (.cells #[(nv ns2 f:Int),(nl ns2 f:Int),(nh ns2 f:Int)] 144);have L:=h.loc #[(nv ns2 f:Int),(nl ns2 f:Int),(nh ns2 f:Int)] 144;have F1:=F.kp hA.kp;obtain⟨b0,b1,b2,b3,b4,bf⟩:=h.reads;obtain⟨cap,a0,a1,ac2,a3,af,an⟩:=F.ar.reads;obtain⟨n0,n1,n2⟩:=an f hf;have hl2:ns2.length<=40000:=Nat.le_trans F.ar.le F.ar.most4;have hl:ns.length<=40000:=Nat.le_trans h.ar.le h.ar.most4;have lb:=h.ltb;have wf:=h.ar.wf;have wf2:=F.ar.wf;have hlo:=wf2.lo f f2 hf;have hhi:=wf2.hi f f2 hf;have vlo:=wf2.vlo f f2 hf;have vhi:=wf2.vhi f f2 hf;have vva:=wf2.va f f2 hf;have HF:Hq (Fit1 S v2 ns2 (nl ns2 f) k /\ Fit1 S v2 ns2 (nh ns2 f) k):=⟨hk.lo wf2 f2 hf,hk.hi wf2 f2 hf⟩;clear hk;have hp2:2 ^ (k+1)=2*2 ^ k:=by rw[Nat.pow_succ];omega
 have hp1:1<=2 ^ k:=Nat.one_le_two_pow;have t1:decide ((f:Int)<=1)=false:=by simp;omega
 have hlook:=(h.o3 c3 hc3).look tz4 (x:=f) (by show f<_;omega);rw[hr]at hlook;simp only[aH,Option.getD_none,Option.isSome_none]at hlook;rw[hc3]at b4;clear h an F;generalize rowOf w a2=g at *;go_enter func140,ntmps140;go_wp2_with fail;refine(ih.out _ ns false N m3 (nl ns2 f) hA.bu F1 (by omega) HF.out.1 (λ_=>hmt) (by omega)).mono ?_;rintro e w4⟨f0,ns1,full1,N1,m31,rfl,hp,X1,l1,k1,lt0,_,s1⟩;have hA4:=hA.then hp;have L4:=L.kp hp.kp;have F4:=F1.kp hp.kp;clear hp hA L hlook b0 b1 b2 b3 b4 bf a0 a1 ac2 a3 af n0 n1 n2 F1;have wf1:=hA4.bu.ar.wf;have X1l:=X1.len;obtain⟨⟨q0,q1,q2⟩,_⟩:=L4.reads;go_wp2_with fail;refine(ih.out _ ns1 full1 N1 m31 (nh ns2 f) hA4.bu F4 (by omega) HF.out.2 (λe=>(s1 e).1) (by omega)).mono ?_;rintro e w6⟨f1,ns3,full2,N2,m32,rfl,hp,X2,l2,k2,lt1,mo2,s2⟩;have hA6:=hA4.then hp;have L6:=L4.kp hp.kp;clear hp L4 hA4 q0 q1 q2 F4;have wf3:=hA6.bu.ar.wf;have X2l:=X2.len;have X02:=X1.trans X2;have sem2:full2=false->MemoT ns3 ns2 m32 /\ IsTk ns3 ns2 (nl ns2 f) f0 /\ IsTk ns3 ns2 (nh ns2 f) f1:=λe2=>by
  have e1:full1=false:=by cases full1 <;> simp_all
  exact⟨(s2 e2).1,(s1 e1).2.ext X2 wf1 wf3,(s2 e2).2⟩
 obtain⟨⟨q0,q1,q2⟩,_⟩:=L6.reads;go_wp2_with fail;refine(numberOf_any hA6.bu (v:=nv ns2 f) (l:=f0) (u:=f1) (by omega) (by omega) lt1 (λe2=>?_)).mono ?_
 ·obtain⟨_,a1,a2⟩:=sem2 e2;have c1:=a1.va;have c2:=a2.va;omega
 rintro e w7⟨r,ns4,full3,rfl,hp,X3,l3,lt3,mo3,s3⟩;have hA7:=hA6.then hp;clear hp L6 hA6 q0 q1 q2;have wf4:=hA7.bu.ar.wf;have len3:ns4.length<=40000:=Nat.le_trans hA7.bu.ar.le hA7.bu.ar.most4;obtain⟨w8,hrun,hM8,hg8⟩:=(hA7.bu.o3 c3 hc3).store tz4 (by unfold maxLen;omega) (x:=f) (by show f<_;omega) (v:=r) (by omega);have hA8:=hA7.memo3 hc3 hM8 hg8;obtain⟨d0,d1,d2,d3,d4,df⟩:=hA7.bu.reads;rw[hc3]at d4;simp only[aH]at hrun;have hfin:jk C w ns ns2 false N m1 m2 f (2 ^ (k+1)-1) (.returned (r:Int)) w8:=by
  refine⟨r,ns4,full3,N2+1,_,rfl,hA8,X02.trans X3,by omega,by omega,lt3,(λe=>by cases e),λe3=>?_⟩;have e2:full2=false:=by cases full2 <;> simp_all
  obtain⟨a00,a1,a2⟩:=sem2 e2;have J:IsTk ns4 ns2 f r:=xP wf2 f2 hf (a1.ext X3 wf3 wf4) (a2.ext X3 wf3 wf4) (s3 e3);exact⟨(a00.ext X3 wf3 wf4).upd J,J⟩
 clear hA7 hM8 hg8 hA8;go_wp2_with fail;go_ret;exact hfin
theorem xS(S:Nat->Bool){c3:Nat}(hc3:C.c3=some c3)(hv2:v2<=C.a8):∀(k:Nat) (w:World) (ns:List Nd) (d9:Bool) (N:Nat) (m3:Nat->Option Nat) (f:Nat),Bu C w ns d9 N m1 m2 m3->Fr C w base2 a2 M2 v2 most2 ns2->f<ns2.length->Fit1 S v2 ns2 f k ->
  (d9=false->MemoT ns ns2 m3)->N+2 ^ k<=1099511627776->Cl 140 #[.pointer (some ⟨C.b,0,none⟩),.pointer a2,(f:Int)] w (jk C w ns ns2 d9 N m1 m2 f (2 ^ k-1)):=by
 intro k
 induction k with
 | zero =>
   intro w ns d9 N m3 f h F hf hk hm hN;have small:f<=1:=by
    have:=hk.zero F.ar.wf hf;omega
   cases d9
   ·refine(take_small h small).mono ?_;rintro e w'⟨rfl,rfl⟩;exact⟨f,ns,false,N,m3,rfl,At.refl h,Ext.refl _,by omega,by omega,(by have:=h.ar.wf.len;omega),id,λ_=>⟨hm rfl,oG h.ar.wf F.ar.wf hv2 small⟩⟩
   ·refine(oH h f).mono ?_;rintro e w'⟨rfl,rfl⟩;exact⟨0,ns,true,N,m3,rfl,At.refl h,Ext.refl _,by omega,by omega,(by have:=h.ar.wf.len;omega),id,λe=>by cases e⟩
 | succ k ih =>
   intro w ns d9 N m3 f h F hf hk hm hN;cases d9
   ·rcases Nat.lt_or_ge f 2 with h2|h2
    ·refine(take_small h (by omega)).mono ?_;rintro e w'⟨rfl,rfl⟩;exact⟨f,ns,false,N,m3,rfl,At.refl h,Ext.refl _,by omega,by omega,(by have:=h.ar.wf.len;omega),id,λ_=>⟨hm rfl,oG h.ar.wf F.ar.wf hv2 (by omega)⟩⟩
    ·cases hr:m3 f with
     | none=>exact xR h F hv2 hc3 h2 hf hr hk (hm rfl) hN ⟨ih⟩
     | some r =>
       have hl2:ns2.length<=40000:=Nat.le_trans F.ar.le F.ar.most4;refine(xQ h hc3 h2 (by omega) hr).mono ?_;rintro e w'⟨rfl,rfl⟩;have J:=hm rfl _ _ hr;exact⟨r,ns,false,N,m3,rfl,At.refl h,Ext.refl _,by omega,by omega,J.lt,id,λ_=>⟨hm rfl,J⟩⟩
   ·refine(oH h f).mono ?_;rintro e w'⟨rfl,rfl⟩;exact⟨0,ns,true,N,m3,rfl,At.refl h,Ext.refl _,by omega,by omega,(by have:=h.ar.wf.len;omega),id,λe=>by cases e⟩
end
theorem Ar.drewT{a9 a M a8 a7:Nat}{w:World}{ns:List Nd}(h:Ar a9 a M a8 a7 w ns):Ar a9 a M a8 a7 w.drew ns:=h.same rfl rfl rfl
theorem kK(S:Nat->Bool){a9 a M a8 a7 base2 a2 M2 v2 most2:Nat}{w:World}{ns ns2:List Nd}(h:Ar a9 a M a8 a7 w ns)(h2:Ar base2 a2 M2 v2 most2 w ns2)(hv2:v2<=a8)(ap:∀i,i=a2\/i=M2\/i=rowOf w a2->i≠a /\ i≠M /\ i≠rowOf w a){f k:Nat}(hf:f<ns2.length)(hfit:Fit1 S v2 ns2 f k)(hk16:k<=16) :
  Cl 108 #[.pointer a,.pointer a2,(f:Int)] w (OpPost a9 a M a8 a7 w ns (2 ^ k-1) λq=>ev ns2 f q):=by
 have hmm:=@run_makeMap prog;have la:=h.lta;have lM:=h.ltM;have hA:=h.lowA;have wf:=h.wf;have t1:(decide ((0:Int)<=(f:Int))&&decide ((f:Int)<(ns2.length:Int)))=true:=by simp;omega
 have HF:Hid (∀w',Ar base2 a2 M2 v2 most2 w' ns2->Cl 84 #[.pointer a2,(f:Int)] w' λe w''=>e=.returned (.bool true) /\ w''=w'):=λw' h'=>by
  have:=di h' (f:Int);rw[t1]at this;exact this
 have t2:decide ((a8:Int)<(v2:Int))=false:=by simp;omega
 have hs:((w.drew).alloc (.map #[] 0)).heap.size=w.heap.size+1:=by simp
 have hb:=bu_new (w:=(w.drew).alloc (.map #[] 0)) (C:=⟨a9,a,w.heap.size+1,M,none,none,some w.heap.size,a8,a7⟩) (m1:=λ_=>none) (m2:=λ_=>none) (m3:=λ_=>none) ((h.drewT).alloc _) (by simp) (by rw[hs];show a9<=_;omega)
  (λ_ e=>by cases e) (λ_ e=>by cases e) (λi e=>by cases e;exact ei aH w.drew) (λ_ e=>by cases e) (λ_ e=>by cases e) (λi e=>by cases e;exact⟨by show a9<=_;omega,by show w.heap.size≠M;omega,(λe=>by cases e),(λe=>by cases e)⟩)
 obtain⟨_,_,_,rl2⟩:=h2.row;have la2:=h2.lta;have lM2:=h2.ltM;have hrow:rowOf (((w.drew).alloc (.map #[] 0)).alloc (.cells #[.pointer a,.bool false,.map none,.map none,.map (some w.heap.size)] 231)) a=rowOf w a:=by
  rw[aQ (Below.heap_alloc _ _ _ (by simp;omega)),aQ (Below.heap_alloc w.drew _ _ la)];rfl
 have hrow2:rowOf (((w.drew).alloc (.map #[] 0)).alloc (.cells #[.pointer a,.bool false,.map none,.map none,.map (some w.heap.size)] 231)) a2=rowOf w a2:=by
  rw[aQ (Below.heap_alloc _ _ _ (by simp;omega)),aQ (Below.heap_alloc w.drew _ _ la2)];rfl
 have out:∀i,(i=a2\/i=M2\/i=rowOf w a2)->i<w.heap.size->Out ⟨a9,a,w.heap.size+1,M,none,none,some w.heap.size,a8,a7⟩ (((w.drew).alloc (.map #[] 0)).alloc (.cells #[.pointer a,.bool false,.map none,.map none,.map (some w.heap.size)] 231)) i:=by
  intro i h1 h2;obtain⟨z1,z2,z3⟩:=ap i h1;refine⟨by simp;omega,?_,?_⟩
  ·rintro(e|e|e|e|e|e)
   ·exact z1 e
   ·have e':i=w.heap.size+1:=e;omega
   ·exact z2 e
   ·cases e
   ·cases e
   ·cases e;omega
  ·show i≠rowOf _ a;rw[hrow];exact z3
 have hFr:Fr ⟨a9,a,w.heap.size+1,M,none,none,some w.heap.size,a8,a7⟩ (((w.drew).alloc (.map #[] 0)).alloc (.cells #[.pointer a,.bool false,.map none,.map none,.map (some w.heap.size)] 231)) base2 a2 M2 v2 most2 ns2 :=
  ⟨((h2.drewT).alloc _).alloc _,out a2 (.inl rfl) la2,out M2 (.inr (.inl rfl)) lM2,by rw[hrow2];exact out _ (.inr (.inr rfl)) rl2⟩
 have hpw:=Nat.pow_le_pow_right (n:=2) (by omega) hk16;have hch:=xS S (C:=⟨a9,a,w.heap.size+1,M,none,none,some w.heap.size,a8,a7⟩) (c3:=w.heap.size) rfl hv2 k _ ns false 0 _ f hb hFr hf hfit (λ_ _ _ e=>by cases e) (by omega);have hch':=Hq.mk hch;obtain⟨cap,a0,_⟩:=h.reads;obtain⟨cap2,b0,_⟩:=h2.reads;have a0':w.drew.cell? ⟨a,0,none⟩=some (.int .i64 (a8:Int)):=a0;have b0':w.drew.cell? ⟨a2,0,none⟩=some (.int .i64 (v2:Int)):=b0;have h2d:=h2.drewT;clear hch hb hFr out hrow hrow2 hpw ap hfit;go_enter func108,ntmps108;go_wp2_with fail;go_region_held3 (λw'=>w'.cell? ⟨a,0,none⟩=some (.int .i64 (a8:Int)) /\ w'.cell? ⟨a2,0,none⟩=some (.int .i64 (v2:Int))) (exact⟨by assumption,by assumption⟩)
  (first|(go_at_call 84;refine(HF.out _ ‹_›).mono ?_;rintro e wn⟨rfl,rfl⟩))
 go_wp2_with fail;refine hch'.out.mono ?_;rintro e w2⟨r,ns',full',N',m3',rfl,hp,X,l1,_,lt,_,sm⟩;have wf':=hp.bu.ar.wf;have hK:Kp (ca a9 a M a8 a7) w w2:=hp.kp.outer rfl rfl rfl rfl (by simp;omega) (λi hi=>(Below.heap_alloc _ _ _ (by simp;omega)).trans (Below.heap_alloc _ _ _ hi)) (by
  rintro i (e|e|e|e|e|e)
  ·exact Or.inl e
  ·exact Or.inr (Or.inr (by rw[e];show _<=w.heap.size+1;omega))
  ·exact Or.inr (Or.inl e)
  ·cases e
  ·cases e
  ·cases e;exact Or.inr (Or.inr (Nat.le_refl _))) la
 go_wp2_with fail;cases full'
 ·refine(answer_any hp.bu r).mono ?_;rintro e w3⟨rfl,rfl⟩;have hfin:OpPost a9 a M a8 a7 w ns (2 ^ k-1) (λq=>ev ns2 f q) (.returned (.tuple #[(r:Int),.int .i64 0])) w3 :=
   ⟨ns',hp.bu.ar,hK,X,l1,Or.inl ⟨r,rfl,lt,λq=>(sm rfl).2.ev q⟩⟩
  clear hp hK;go_wp2_with fail;go_ret2;exact hfin
 ·refine(answer_any hp.bu r).mono ?_;rintro e w3⟨rfl,rfl⟩;have hfin:OpPost a9 a M a8 a7 w ns (2 ^ k-1) (λq=>ev ns2 f q) (.returned (.tuple #[.int .i64 0,.int .i64 6])) w3 :=
   ⟨ns',hp.bu.ar,hK,X,l1,Or.inr ⟨rfl,hp.bu.full_len rfl⟩⟩
  clear hp hK;go_wp2_with fail;go_ret2;exact hfin
theorem xT{a9 a M a8 a7 base2 a2 M2 v2 most2:Nat}{w:World}{ns ns2:List Nd}(h:Ar a9 a M a8 a7 w ns)(h2:Ar base2 a2 M2 v2 most2 w ns2)(hv2:v2<=a8)(p1:a<base2)(p2:M<base2)(p3:rowOf w a<base2){f:Nat}(hf:f<ns2.length) :
  Cl 108 #[.pointer a,.pointer a2,(f:Int)] w (OpPost a9 a M a8 a7 w ns (2 ^ v2-1) λq=>ev ns2 f q) :=
 kK (λ_=>true) h h2 hv2 (λi hi=>by
  have h1:base2<=i:=by
   rcases hi with rfl|rfl|rfl
   ·exact h2.lowA
   ·exact h2.lowM
   ·exact h2.row.choose_spec.2.1
  refine⟨by omega,by omega,by omega⟩) hf (zU (Nat.le_add_left _ _)) h2.vars16
theorem Ar.kalloc2{a9 a M a8 a7:Nat}{w:World}{ns:List Nd}(h:Ar a9 a M a8 a7 w ns)(o:Obj):Kp (ca a9 a M a8 a7) w (w.alloc o) :=
 ⟨rfl,rfl,rfl,by simp,λi hi _ _=>Below.heap_alloc w o i hi,Or.inl (aQ (Below.heap_alloc w o _ h.lta)),λ_ _=>bJ (Below.heap_alloc w o _ h.lta)⟩
theorem xU{a9 a M a8 a7 base2 a2 M2 v2 most2:Nat}{w:World}{ns ns2:List Nd}(h:Ar a9 a M a8 a7 w ns)(h2:Ar base2 a2 M2 v2 most2 w ns2)(hv2:v2<=a8){f:Nat}(hf1:f<=1) :
  Cl 108 #[.pointer a,.pointer a2,(f:Int)] w λe w'=>e=.returned (.tuple #[(f:Int),.int .i64 0]) /\ Ar a9 a M a8 a7 w' ns /\ Kp (ca a9 a M a8 a7) w w':=by
 have hf:f<ns2.length:=by have:=h2.wf.len;omega
 have hmm:=@run_makeMap prog;have la:=h.lta;have lM:=h.ltM;have hA:=h.lowA;have t1:(decide ((0:Int)<=(f:Int))&&decide ((f:Int)<(ns2.length:Int)))=true:=by simp;omega
 have HF:Hid (∀w',Ar base2 a2 M2 v2 most2 w' ns2->Cl 84 #[.pointer a2,(f:Int)] w' λe w''=>e=.returned (.bool true) /\ w''=w'):=λw' h'=>by
  have:=di h' (f:Int);rw[t1]at this;exact this
 have t2:decide ((a8:Int)<(v2:Int))=false:=by simp;omega
 have hs:((w.drew).alloc (.map #[] 0)).heap.size=w.heap.size+1:=by simp
 have hb:=bu_new (w:=(w.drew).alloc (.map #[] 0)) (C:=⟨a9,a,w.heap.size+1,M,none,none,some w.heap.size,a8,a7⟩) (m1:=λ_=>none) (m2:=λ_=>none) (m3:=λ_=>none) ((h.drewT).alloc _) (by simp) (by rw[hs];show a9<=_;omega)
  (λ_ e=>by cases e) (λ_ e=>by cases e) (λi e=>by cases e;exact ei aH w.drew) (λ_ e=>by cases e) (λ_ e=>by cases e) (λi e=>by cases e;exact⟨by show a9<=_;omega,by show w.heap.size≠M;omega,(λe=>by cases e),(λe=>by cases e)⟩)
 have hch:=take_small (a2:=a2) hb hf1;have hch':=Hq.mk hch;obtain⟨cap,a0,_⟩:=h.reads;obtain⟨cap2,b0,_⟩:=h2.reads;have a0':w.drew.cell? ⟨a,0,none⟩=some (.int .i64 (a8:Int)):=a0;have b0':w.drew.cell? ⟨a2,0,none⟩=some (.int .i64 (v2:Int)):=b0;have h2d:=h2.drewT;have hb':=Hq.mk hb;clear hch hb;go_enter func108,ntmps108;go_wp2_with fail;go_region_held3 (λw'=>w'.cell? ⟨a,0,none⟩=some (.int .i64 (a8:Int)) /\ w'.cell? ⟨a2,0,none⟩=some (.int .i64 (v2:Int))) (exact⟨by assumption,by assumption⟩)
  (first|(go_at_call 84;refine(HF.out _ ‹_›).mono ?_;rintro e wn⟨rfl,rfl⟩))
 go_wp2_with fail;refine hch'.out.mono ?_;rintro e w2⟨rfl,rfl⟩;have hK:Kp (ca a9 a M a8 a7) w (((w.drew).alloc (.map #[] 0)).alloc (.cells #[.pointer a,.bool false,.map none,.map none,.map (some w.heap.size)] 231)):=(Kp.refl (ca a9 a M a8 a7) w).drew.trans ((h.drewT.kalloc2 _).trans ((h.drewT.alloc _).kalloc2 _));have hA9:=((h.drewT).alloc (.map #[] 0)).alloc (.cells #[.pointer a,.bool false,.map none,.map none,.map (some w.heap.size)] 231);go_wp2_with fail;refine(answer_any hb'.out f).mono ?_;rintro e w3⟨rfl,rfl⟩;have fin:=Hq.mk (And.intro hA9 hK);clear hA9 hK hb';go_wp2_with fail;go_ret2;exact⟨rfl,fin.out⟩
theorem check_ok(A:Option Addr)(n cap:Nat)(w:World):CS 93 #[.slice A n cap] w (.int .i64 (if 8<n then 2 else 0)):=by
 by_cases h:8<n
 ·have t:decide ((8:Int)<(n:Int))=true:=by simp;omega
  rw[if_pos h];go_enter func93,ntmps93;go_wp2_with fail;go_ret;exact⟨rfl,rfl⟩
 ·have t:decide ((8:Int)<(n:Int))=false:=by simp;omega
  rw[if_neg h];go_enter func93,ntmps93;go_wp2_with fail;go_ret;exact⟨rfl,rfl⟩
def BPost(E:Prop)(a9 a M:Nat)(w:World)(ns:List Nd)(xs:List Rl)(e:Ending)(w':World):Prop :=
 ∃ns',Ar a9 a M 14 40000 w' ns' /\ Kp (ca a9 a M 14 40000) w w' /\ Ext ns ns' /\
   ((∃f:Nat,e=.returned (.tuple #[(f:Int),.int .i64 0]) /\ f<ns'.length /\ ∀x,ev ns' f x=ao xs x)\/(e=.returned (.tuple #[.int .i64 0,.int .i64 6]) /\ E))
theorem xV{a9 a M:Nat}{w:World}{ns:List Nd}(h:Ar a9 a M 14 40000 w ns)(A:Option Addr)(n cap:Nat)(xs:List Rl)(hR:Rules w w (.slice A n cap) xs)(hlen:xs.length<=8) :
  Cl 198 #[.pointer a,.slice A n cap] w (BPost True a9 a M w ns xs):=by
 have hn:n=xs.length:=by
  obtain⟨_,_,e,_⟩:=hR;cases e;rfl
 have CK:Hid (∀w,CS 93 #[.slice A n cap] w (.int .i64 0)):=λw=>by
  have:=check_ok A n cap w;rw[if_neg (by omega)]at this;exact this
 have NW:Hid (Cl 26 #[.int .i64 14,.int .i64 40000] w λe w'=>∃a2 M2,e=.returned (.tuple #[.pointer (some ⟨a2,0,none⟩),.int .i64 0]) /\ Ar w.heap.size a2 M2 14 40000 w' [(14,0,0),(14,1,1)] /\ Below w w w'):=iP (v:=14) (m:=40000) w (by omega) (by omega) (by omega) (by omega);clear hn;go_enter func198,ntmps198;go_wp2_with (go_at_call 93;refine(CK.out _).mono ?_;rintro e w'⟨rfl,rfl⟩);refine NW.out.mono ?_;rintro e w2⟨a2,M2,rfl,A2,hb2⟩;have JO:Hid (Cl 215 #[.pointer (some ⟨a2,0,none⟩),.slice A n cap] w2 λe w'=>∃ns',Ar _ a2 M2 14 40000 w' ns' /\ Below _ w2 w' /\
   ((∃f:Nat,e=.returned (.tuple #[(f:Int),.int .i64 0]) /\ f<ns'.length /\ ∀x,ev ns' f x=ao xs x)\/(e=.returned (.tuple #[.int .i64 0,.int .i64 6]) /\ _))):=oF A2 A n cap xs (hR.below hb2) hlen
 clear CK NW;go_wp2_with fail;refine JO.out.mono ?_;rintro e w3⟨ns3,A3,hb3,hres⟩;have D3:=hb2.trans hb3;have H3:=h.below D3;have K3:=h.kbelow D3;clear JO hb2 hb3 A2;rcases hres with⟨f,rfl,lf,ef⟩|⟨rfl,_⟩
 ·obtain⟨_,_,_,rl⟩:=h.row;have hrow:=aQ (D3.block a h.lta);have TK:Hid (Cl 108 #[.pointer a,.pointer (some ⟨a2,0,none⟩),(f:Int)] w3 (OpPost a9 a M 14 40000 w3 ns (2 ^ 14-1) λq=>ev ns3 f q)):=xT H3 A3 (Nat.le_refl _) h.lta h.ltM (by rw[hrow];exact rl) lf;clear hrow rl A3;go_wp2_with fail;refine TK.out.mono ?_;rintro e w4 hp;obtain⟨ns4,v4,er4,rfl,A4,K4,X4,_,d4⟩:=hp.pair;have KK:=K3.trans K4;clear hp TK H3 K3 K4 D3;have fin:Hid (BPost True a9 a M w' ns xs (.returned (.tuple #[v4,er4])) w4):=by
   rcases d4.out with⟨rfl,f4,rfl,l4,e4⟩|⟨rfl,rfl,_⟩
   ·exact⟨ns4,A4,KK,X4,.inl ⟨f4,rfl,l4,λx=>(e4 x).trans (ef x)⟩⟩
   ·exact⟨ns4,A4,KK,X4,.inr ⟨rfl,trivial⟩⟩
  clear d4 A4 KK X4 ef;go_wp2_with fail;go_ret2;exact fin.out
 ·have fin:Hid (BPost True a9 a M w' ns xs (.returned (.tuple #[.int .i64 0,.int .i64 6])) w3):=⟨ns,H3,K3,Ext.refl _,.inr ⟨rfl,trivial⟩⟩;clear H3 K3 D3 A3;go_wp2_with fail;go_ret2;exact fin.out
theorem xW(x k:Nat):(if x.testBit k then 2 ^ k else 0)+x % 2 ^ k=x % 2 ^ (k+1):=by
 rw[Nat.mod_pow_succ,Nat.testBit_eq_decide_div_mod_eq];have:x / 2 ^ k % 2=0\/x / 2 ^ k % 2=1:=by omega
 rcases this with h|h
 ·rw[h];simp
 ·rw[h];simp[Nat.add_comm]
theorem eD(n c:Nat):∀(k first:Nat),first+k<=n->val k first (envOf n c)=c / 2 ^ (n-first-k) % 2 ^ k:=by
 intro k
 induction k with
 | zero=>intro first _;simp[val,Nat.mod_one]
 | succ k ih =>
   intro first h;rw[val,ih (first+1) (by omega),envOf,show n-(first+1)-k=n-first-(k+1) by omega,<- xW];have e:c.testBit (n-1-first)=(c / 2 ^ (n-first-(k+1))).testBit k:=by
    rw[Nat.testBit_div_two_pow]
    congr 1
    omega
   rw[e]
theorem xX(sa sb sc sd c:Nat)(hc:c<16384):phi sa sb sc sd (envOf 14 c)=(sa.testBit (c / 1024)&&sb.testBit (c / 64 % 16)&&sc.testBit (c / 8 % 8)&&sd.testBit (c % 8)):=by
 unfold phi;simp only[ed,eD 14 c _ _ (show 0+4<=14 by decide),eD 14 c _ _ (show 4+4<=14 by decide),eD 14 c _ _ (show 8+3<=14 by decide),eD 14 c _ _ (show 11+3<=14 by decide)];have h1:c / 2 ^ (14-0-4) % 2 ^ 4=c / 1024:=by
  have:c / 1024<16:=by omega
  exact Nat.mod_eq_of_lt this
 rw[h1,Bool.and_true,Bool.and_assoc,Bool.and_assoc];have h2:c / 2 ^ (14-4-4) % 2 ^ 4=c / 64 % 16:=rfl;have h3:c / 2 ^ (14-8-3) % 2 ^ 3=c / 8 % 8:=rfl;have h4:c / 2 ^ (14-11-3) % 2 ^ 3=c % 8:=by simp
 rw[h2,h3,h4]
theorem gc:∀(k first:Nat) (x:Env) (j:Nat),j<k->(val k first x).testBit (k-1-j)=x (first+j):=by
 intro k
 induction k with
 | zero=>intro first x j h;omega
 | succ k ih =>
   intro first x j h;have hlt:=fp k (first+1) x;have e:val (k+1) first x=(if x first then 2 ^ k else 0)+val k (first+1) x:=rfl;rw[e];by_cases h0:j=0
   ·subst h0;rw[show k+1-1-0=k by omega,Nat.add_zero];cases x first
    ·simp[Nat.testBit_lt_two_pow hlt]
    ·simp only[if_true];rw[Nat.testBit_two_pow_add_eq,Nat.testBit_lt_two_pow hlt];rfl
   ·have e2:k+1-1-j=k-1-(j-1):=by omega
    have e3:=ih (first+1) x (j-1) (by omega);rw[show first+1+(j-1)=first+j by omega]at e3;rw[e2];cases x first
    ·simpa using e3
    ·simp only[if_true];rw[Nat.testBit_two_pow_add_gt (by omega)];exact e3
theorem eE:∀(k bits first:Nat) (x y:Env),(∀i,first<=i->i<first+k->x i=y i)->sel k bits first x=sel k bits first y:=by
 intro k bits first x y h;have v:∀(k first:Nat),(∀i,first<=i->i<first+k->x i=y i)->val k first x=val k first y:=by
  intro k
  induction k with
  | zero=>intro first _;rfl
  | succ k ih =>
    intro first h;show(if x first then 2 ^ k else 0)+val k (first+1) x=(if y first then 2 ^ k else 0)+val k (first+1) y;rw[h first (by omega) (by omega),ih (first+1) (λi h1 h2=>h i (by omega) (by omega))]
 rw[ed,ed,v k first h]
theorem oI:∀(xs:List Rl) (x y:Env),(∀i,i<14->x i=y i)->ao xs x=ao xs y
 | [],_,_,_=>rfl
 | r::l,x,y,h=>by
   have e:phi r.a r.b r.c r.d x=phi r.a r.b r.c r.d y:=by
    unfold phi;rw[eE 4 r.a 0 x y (λi h1 h2=>h i (by omega)),eE 4 r.b 4 x y (λi h1 h2=>h i (by omega)),eE 3 r.c 8 x y (λi h1 h2=>h i (by omega)),eE 3 r.d 11 x y (λi h1 h2=>h i (by omega))]
   rw[ao,ao,e,oI l x y h]
structure IsEx(ns:List Nd)(i f g:Nat):Prop where
 ltf:f<ns.length
 lt:g<ns.length
 ev:∀e,ev ns g e=(ev ns f (setE e i false)||ev ns f (setE e i true))
 va:nv ns f<=nv ns g
section
variable {a8:Nat}{ns ns':List Nd}
theorem IsEx.ext{i f g:Nat}(h:IsEx ns i f g)(X:Ext ns ns')(wf:Wf a8 ns)(wf':Wf a8 ns'):IsEx ns' i f g:=by
 have hl:=X.len;have lt:=h.lt;have ltf:=h.ltf;refine⟨by omega,by omega,λe=>?_,?_⟩
 ·rw[X.ev wf wf' _ h.lt,X.ev wf wf' _ h.ltf,X.ev wf wf' _ h.ltf];exact h.ev e
 ·rw[X.va h.ltf,X.va h.lt];exact h.va
def MemoE(ns:List Nd)(i:Nat)(m:Nat->Option Nat):Prop:=∀f g,m f=some g->IsEx ns i f g
theorem MemoE.ext{i:Nat}{m:Nat->Option Nat}(h:MemoE ns i m)(X:Ext ns ns')(wf:Wf a8 ns)(wf':Wf a8 ns'):MemoE ns' i m:=λc f e=>(h c f e).ext X wf wf'
theorem MemoE.upd{i:Nat}{m:Nat->Option Nat}(h:MemoE ns i m){c f:Nat}(hf:IsEx ns i c f):MemoE ns i (upd m c f):=by
 intro d g hg;unfold YtjmclcmgpaofiaaGreat.upd at hg;by_cases e:d=c
 ·subst e;rw[if_pos rfl]at hg;cases hg;exact hf
 ·rw[if_neg e]at hg;exact h d g hg
theorem oJ(wf:Wf a8 ns){i f:Nat}(hf:f<ns.length)(hi:i<nv ns f):IsEx ns i f f:=⟨hf,hf,λe=>by rw[fI wf hf hi,fI wf hf hi];simp,Nat.le_refl _⟩
theorem xY(wf:Wf a8 ns){f g:Nat}(f2:2<=f)(hf:f<ns.length)(h:IsIte ns (nl ns f,1,nh ns f) g):IsEx ns (nv ns f) f g:=by
 refine⟨hf,h.lt,λe=>?_,?_⟩
 ·rw[cV wf f2 hf,cV wf f2 hf,h.ev e];simp only[ev1];cases ev ns (nl ns f) e <;> simp
 ·have a:=h.va;have v1:=wf.vlo f f2 hf;have v2:=wf.vhi f f2 hf;have v0:=wf.va f f2 hf;have e1:nv ns 1=a8:=by rw[nv,wf.n1]
  simp only[au,e1]at a;omega
theorem xZ(wf:Wf a8 ns){i f l u g:Nat}(f2:2<=f)(hf:f<ns.length)(hi:nv ns f<i)(h0:IsEx ns i (nl ns f) l)(h1:IsEx ns i (nh ns f) u)(hn:IsNode ns (nv ns f) l u g):IsEx ns i f g:=by
 refine⟨hf,hn.lt,λe=>?_,hn.va⟩;have ne:nv ns f≠i:=by omega
 rw[hn.ev,h0.ev,h1.ev,cE wf f2 hf,cE wf f2 hf,cM e _ ne,cM e _ ne];cases e (nv ns f) <;> simp
end
def gd(C:Cfg)(w:World)(ns:List Nd)(d9:Bool)(N:Nat)(m2:Mx->Option Nat)(i f:Nat)(g:Nat)(e:Ending)(w':World):Prop :=
 ∃r ns' full' N' m1' m3',e=.returned (.int .i64 ((r:Nat):Int)) /\ At C w w' ns' full' N' m1' m2 m3' /\ Ext ns ns' /\ ns'.length<=ns.length+g /\ N'<=N+g /\ r<ns'.length /\ (d9=true->full'=true) /\ (full'=false->MemoC ns' m1' /\ MemoE ns' i m3' /\ IsEx ns' i f r)
section
variable {C:Cfg}{w:World}{ns:List Nd}{N:Nat}{m1:Nd->Option Nat}{m2:Mx->Option Nat}{m3:Nat->Option Nat}
theorem oK(h:Bu C w ns true N m1 m2 m3){f:Nat}(hf:f<ns.length)(i:Nat) :
  Cl 223 #[.pointer (some ⟨C.b,0,none⟩),(f:Int),(i:Int)] w λe w'=>e=.returned (.int .i64 0) /\ At C w w' ns true N m1 m2 m3:=by
 have hA:=(At.refl h).alloc (.cells #[(nv ns f:Int),(nl ns f:Int),(nh ns f:Int)] 144);obtain⟨b0,b1,b2,b3,b4,bf⟩:=h.reads;obtain⟨cap,a0,a1,a2,a3,af,an⟩:=h.ar.reads;obtain⟨n0,n1,n2⟩:=an f hf;have hl:ns.length<=40000:=Nat.le_trans h.ar.le h.ar.most4;have lb:=h.ltb;clear h an;generalize rowOf w C.a=g at *;go_enter func223,ntmps223;go_wp2_with fail;go_ret;exact⟨rfl,hA⟩
theorem exists_far(h:Bu C w ns false N m1 m2 m3){f i:Nat}(hf:f<ns.length)(hi:i<nv ns f) :
  Cl 223 #[.pointer (some ⟨C.b,0,none⟩),(f:Int),(i:Int)] w λe w'=>e=.returned (f:Int) /\ At C w w' ns false N m1 m2 m3:=by
 have hA:=(At.refl h).alloc (.cells #[(nv ns f:Int),(nl ns f:Int),(nh ns f:Int)] 144);obtain⟨b0,b1,b2,b3,b4,bf⟩:=h.reads;obtain⟨cap,a0,a1,a2,a3,af,an⟩:=h.ar.reads;obtain⟨n0,n1,n2⟩:=an f hf;have hl:ns.length<=40000:=Nat.le_trans h.ar.le h.ar.most4;have lb:=h.ltb;have t1:decide ((i:Int)<(nv ns f:Int))=true:=by simp;omega
 clear h an;generalize rowOf w C.a=g at *;go_enter func223,ntmps223;go_wp2_with fail;go_ret;exact⟨rfl,hA⟩
theorem ya(h:Bu C w ns false N m1 m2 m3){f i k:Nat}(f2:2<=f)(hf:f<ns.length)(hi:nv ns f=i)(hme:MemoE ns i m3)
  (hch:Hq (∀w,Bu C w ns false N m1 m2 m3->Cl 170 #[.pointer (some ⟨C.b,0,none⟩),aU (nl ns f,1,nh ns f)] w (fT C w ns false N m2 m3 (nl ns f,1,nh ns f) (2 ^ k-1)))) :
  Cl 223 #[.pointer (some ⟨C.b,0,none⟩),(f:Int),(i:Int)] w (gd C w ns false N m2 i f (2 ^ k-1)):=by
 subst hi;have hA:=(At.refl h).alloc (.cells #[(nv ns f:Int),(nl ns f:Int),(nh ns f:Int)] 144);obtain⟨b0,b1,b2,b3,b4,bf⟩:=h.reads;obtain⟨cap,a0,a1,a2,a3,af,an⟩:=h.ar.reads;obtain⟨n0,n1,n2⟩:=an f hf;have hl:ns.length<=40000:=Nat.le_trans h.ar.le h.ar.most4;have lb:=h.ltb;have wf:=h.ar.wf;clear h an;generalize rowOf w C.a=g at *;go_enter func223,ntmps223;go_wp2_with fail;refine(hch.out _ hA.bu).mono ?_;rintro e w4⟨r,ns1,full1,N1,m11,rfl,hp,X1,l1,n1,lt0,mo,s1⟩;have hA4:=hA.then hp;have wf1:=hA4.bu.ar.wf;have hfin:gd C w ns false N m2 (nv ns f) f (2 ^ k-1) (.returned (r:Int)) w4:=by
  refine⟨r,ns1,full1,N1,m11,m3,rfl,hA4,X1,l1,n1,lt0,mo,λe1=>⟨(s1 e1).1,hme.ext X1 wf wf1,?_⟩⟩;have j:=(s1 e1).2;have en:nd ns1 f=nd ns f:=X1.nd hf;have:=X1.len;have q:=xY wf1 f2 (by omega) (by rw[nl,nh,en];exact j);rw[nv,en]at q;exact q
 clear hp hA4;go_wp2_with fail;go_ret;exact hfin
theorem yb(h:Bu C w ns false N m1 m2 m3){c3:Nat}(hc3:C.c3=some c3){f i r:Nat}(hf:f<ns.length)(hi:nv ns f<i)(hr:m3 f=some r) :
  Cl 223 #[.pointer (some ⟨C.b,0,none⟩),(f:Int),(i:Int)] w λe w'=>e=.returned (r:Int) /\ At C w w' ns false N m1 m2 m3:=by
 have hA:=(At.refl h).alloc (.cells #[(nv ns f:Int),(nl ns f:Int),(nh ns f:Int)] 144);obtain⟨b0,b1,b2,b3,b4,bf⟩:=h.reads;obtain⟨cap,a0,a1,a2,a3,af,an⟩:=h.ar.reads;obtain⟨n0,n1,n2⟩:=an f hf;have hl:ns.length<=40000:=Nat.le_trans h.ar.le h.ar.most4;have lb:=h.ltb;have t1:decide ((i:Int)<(nv ns f:Int))=false:=by simp;omega
 have t2:((nv ns f:Int) ==(i:Int))=false:=by simp;omega
 have hlook:=(hA.bu.o3 c3 hc3).look tz4 (x:=f) (by show f<_;omega);rw[hr]at hlook;simp only[aH,Option.getD_some,Option.isSome_some]at hlook;rw[hc3]at b4;clear h an;generalize rowOf w C.a=g at *;go_enter func223,ntmps223;go_wp2_with fail;go_ret;exact⟨rfl,hA⟩
theorem ye(h:Bu C w ns false N m1 m2 m3){c3:Nat}(hc3:C.c3=some c3){f i k:Nat}(hf:f<ns.length)(hi:nv ns f<i)(hiv:i<C.a8)(hr:m3 f=none)(hk:C.a8<=nv ns f+(k+1))(hmc:MemoC ns m1)(hme:MemoE ns i m3)(hN:N+2 ^ (k+1)<=1099511627776)
  (ih:Hq (∀w ns d9 N m1 m3 f,Bu C w ns d9 N m1 m2 m3->f<ns.length->C.a8<=nv ns f+k->(d9=false->MemoC ns m1 /\ MemoE ns i m3)->N+2 ^ k<=1099511627776->Cl 223 #[.pointer (some ⟨C.b,0,none⟩),(f:Int),(i:Int)] w (gd C w ns d9 N m2 i f (2 ^ k-1)))) :
  Cl 223 #[.pointer (some ⟨C.b,0,none⟩),(f:Int),(i:Int)] w (gd C w ns false N m2 i f (2 ^ (k+1)-1)):=by
 have hA:=(At.refl h).alloc (.cells #[(nv ns f:Int),(nl ns f:Int),(nh ns f:Int)] 144);have L:=h.loc #[(nv ns f:Int),(nl ns f:Int),(nh ns f:Int)] 144;obtain⟨b0,b1,b2,b3,b4,bf⟩:=h.reads;obtain⟨cap,a0,a1,a2,a3,af,an⟩:=h.ar.reads;obtain⟨n0,n1,n2⟩:=an f hf;have hl:ns.length<=40000:=Nat.le_trans h.ar.le h.ar.most4;have lb:=h.ltb;have wf:=h.ar.wf;have f2:2<=f:=va_lt wf hf (by omega);have hlo:=wf.lo f f2 hf;have hhi:=wf.hi f f2 hf;have vlo:=wf.vlo f f2 hf;have vhi:=wf.vhi f f2 hf;have hp2:2 ^ (k+1)=2*2 ^ k:=by rw[Nat.pow_succ];omega
 have hp1:1<=2 ^ k:=Nat.one_le_two_pow;have t1:decide ((i:Int)<(nv ns f:Int))=false:=by simp;omega
 have t2:((nv ns f:Int) ==(i:Int))=false:=by simp;omega
 have hlook:=(hA.bu.o3 c3 hc3).look tz4 (x:=f) (by show f<_;omega);rw[hr]at hlook;simp only[aH,Option.getD_none,Option.isSome_none]at hlook;rw[hc3]at b4;clear h an;generalize rowOf w C.a=g at *;go_enter func223,ntmps223;go_wp2_with fail;refine(ih.out _ ns false N m1 m3 (nl ns f) hA.bu (by omega) (by omega) (λ_=>⟨hmc,hme⟩) (by omega)).mono ?_;rintro e w4⟨f0,ns1,full1,N1,m11,m31,rfl,hp,X1,l1,k1,lt0,_,s1⟩;have hA4:=hA.then hp;have L4:=L.kp hp.kp;clear hp hA L hlook b0 b1 b2 b3 b4 bf a0 a1 a2 a3 af n0 n1 n2;have wf1:=hA4.bu.ar.wf;have X1l:=X1.len;obtain⟨⟨q0,q1,q2⟩,_⟩:=L4.reads;go_wp2_with fail;refine(ih.out _ ns1 full1 N1 m11 m31 (nh ns f) hA4.bu (by omega) (by rw[X1.va (by omega)];omega) (λe=>⟨(s1 e).1,(s1 e).2.1⟩) (by omega)).mono ?_;rintro e w6⟨f1,ns2,full2,N2,m12,m32,rfl,hp,X2,l2,k2,lt1,mo2,s2⟩;have hA6:=hA4.then hp;have L6:=L4.kp hp.kp;clear hp L4 hA4 q0 q1 q2;have wf2:=hA6.bu.ar.wf;have X2l:=X2.len;have X02:=X1.trans X2;have sem2:full2=false->MemoC ns2 m12 /\ MemoE ns2 i m32 /\ IsEx ns2 i (nl ns f) f0 /\ IsEx ns2 i (nh ns f) f1:=λe2=>by
  have e1:full1=false:=by cases full1 <;> simp_all
  exact⟨(s2 e2).1,(s2 e2).2.1,(s1 e1).2.2.ext X2 wf1 wf2,(s2 e2).2.2⟩
 obtain⟨⟨q0,q1,q2⟩,_⟩:=L6.reads;go_wp2_with fail;refine(numberOf_any hA6.bu (v:=nv ns f) (l:=f0) (u:=f1) (by omega) (by omega) lt1 (λe2=>?_)).mono ?_
 ·obtain⟨_,_,a1,a2⟩:=sem2 e2;have c1:=a1.va;have c2:=a2.va;rw[X02.va (by omega)]at c1 c2;omega
 rintro e w7⟨r,ns3,full3,rfl,hp,X3,l3,lt3,mo3,s3⟩;have hA7:=hA6.then hp;clear hp L6 hA6 q0 q1 q2;have wf3:=hA7.bu.ar.wf;have len3:ns3.length<=40000:=Nat.le_trans hA7.bu.ar.le hA7.bu.ar.most4;obtain⟨w8,hrun,hM8,hg8⟩:=(hA7.bu.o3 c3 hc3).store tz4 (by unfold maxLen;omega) (x:=f) (by show f<_;omega) (v:=r) (by omega);have hA8:=hA7.memo3 hc3 hM8 hg8;obtain⟨d0,d1,d2,d3,d4,df⟩:=hA7.bu.reads;rw[hc3]at d4;simp only[aH]at hrun;have hfin:gd C w ns false N m2 i f (2 ^ (k+1)-1) (.returned (r:Int)) w8:=by
  refine⟨r,ns3,full3,N2+1,m12,_,rfl,hA8,X02.trans X3,by omega,by omega,lt3,(λe=>by cases e),λe3=>?_⟩;have e2:full2=false:=by cases full2 <;> simp_all
  obtain⟨a0,a00,a1,a2⟩:=sem2 e2;have X03:=X02.trans X3;have X03l:=X03.len;have en:nd ns3 f=nd ns f:=X03.nd hf;have J:IsEx ns3 i f r:=by
   refine xZ (l:=f0) (u:=f1) wf3 f2 (by omega) ?_ ?_ ?_ ?_
   ·rw[nv,en];exact hi
   ·rw[nl,en];exact a1.ext X3 wf2 wf3
   ·rw[nh,en];exact a2.ext X3 wf2 wf3
   ·rw[nv,en];exact s3 e3
  exact⟨a0.ext X3 wf2 wf3,(a00.ext X3 wf2 wf3).upd J,J⟩
 clear hA7 hM8 hg8 hA8;go_wp2_with fail;go_ret;exact hfin
theorem yf{c1 c3:Nat}(hc1:C.c1=some c1)(hc3:C.c3=some c3){i:Nat}(hiv:i<C.a8):∀(k:Nat) (w:World) (ns:List Nd) (d9:Bool) (N:Nat) (m1:Nd->Option Nat) (m3:Nat->Option Nat) (f:Nat),Bu C w ns d9 N m1 m2 m3->f<ns.length->C.a8<=nv ns f+k ->
  (d9=false->MemoC ns m1 /\ MemoE ns i m3)->N+2 ^ k<=1099511627776->Cl 223 #[.pointer (some ⟨C.b,0,none⟩),(f:Int),(i:Int)] w (gd C w ns d9 N m2 i f (2 ^ k-1)):=by
 intro k
 induction k with
 | zero =>
   intro w ns d9 N m1 m3 f h hf hk hm hN;cases d9
   ·refine(exists_far h hf (by omega)).mono ?_;rintro e w'⟨rfl,hA⟩;exact⟨f,ns,false,N,m1,m3,rfl,hA,Ext.refl _,by omega,by omega,hf,id,λ_=>⟨(hm rfl).1,(hm rfl).2,oJ h.ar.wf hf (by omega)⟩⟩
   ·refine(oK h hf i).mono ?_;rintro e w'⟨rfl,hA⟩;exact⟨0,ns,true,N,m1,m3,rfl,hA,Ext.refl _,by omega,by omega,(by have:=h.ar.wf.len;omega),id,λe=>by cases e⟩
 | succ k ih =>
   intro w ns d9 N m1 m3 f h hf hk hm hN;cases d9
   ·rcases Nat.lt_trichotomy i (nv ns f)with hi|hi|hi
    ·refine(exists_far h hf hi).mono ?_;rintro e w'⟨rfl,hA⟩;exact⟨f,ns,false,N,m1,m3,rfl,hA,Ext.refl _,by omega,by omega,hf,id,λ_=>⟨(hm rfl).1,(hm rfl).2,oJ h.ar.wf hf hi⟩⟩
    ·have f2:=va_lt h.ar.wf hf (by omega);have l2:=h.ar.wf.len;have hlo:=h.ar.wf.lo f f2 hf;have hhi:=h.ar.wf.hi f f2 hf;refine ya h f2 hf hi.symm (hm rfl).2 ⟨λw' hb=>ug hc1 (k+1) w' ns false N m1 _ hb ⟨by show nl ns f<_;omega,by show 1<_;omega,by show nh ns f<_;omega⟩ ?_ (λ_=>(hm rfl).1) hN⟩;have v1:=h.ar.wf.vlo f f2 hf;have v2:=h.ar.wf.vhi f f2 hf;have e1:nv ns 1=C.a8:=by rw[nv,h.ar.wf.n1]
     simp only[au,e1];omega
    ·cases hr:m3 f with
     | none=>exact ye h hc3 hf hi hiv hr hk (hm rfl).1 (hm rfl).2 hN ⟨ih⟩
     | some r =>
       refine(yb h hc3 hf hi hr).mono ?_;rintro e w'⟨rfl,hA⟩;have J:=(hm rfl).2 _ _ hr;exact⟨r,ns,false,N,m1,m3,rfl,hA,Ext.refl _,by omega,by omega,J.lt,id,λ_=>⟨(hm rfl).1,(hm rfl).2,J⟩⟩
   ·refine(oK h hf i).mono ?_;rintro e w'⟨rfl,hA⟩;exact⟨0,ns,true,N,m1,m3,rfl,hA,Ext.refl _,by omega,by omega,(by have:=h.ar.wf.len;omega),id,λe=>by cases e⟩
end
def pm(ns:List Nd)(x:Mx)(v:Nat)(val:Bool):Mx:=(aw ns x.1 v val,aw ns x.2.1 v val,x.2.2)
def InsideM(ns:List Nd)(x:Mx):Prop:=x.1<ns.length /\ x.2.1<ns.length
def am(ns:List Nd)(x:Mx)(b9:Nat):Nat:=min (min (nv ns x.1) (nv ns x.2.1)) b9
structure IsBl(ns:List Nd)(b9:Nat)(x:Mx)(g:Nat):Prop where
 inside:InsideM ns x
 lt:g<ns.length
 ev:∀e,ev ns g e=if e b9 then ev ns x.2.1 (setE e b9 x.2.2)else ev ns x.1 (setE e b9 x.2.2)
 va:am ns x b9<=nv ns g
section
variable {a8:Nat}{ns ns':List Nd}
theorem InsideM.ext{x:Mx}(h:InsideM ns x)(X:Ext ns ns'):InsideM ns' x:=by
 have:=X.len;obtain⟨h1,h2⟩:=h;exact⟨by omega,by omega⟩
theorem ge{x:Mx}(h:InsideM ns x)(X:Ext ns ns')(b9:Nat):am ns' x b9=am ns x b9:=by
 unfold am;rw[X.va h.1,X.va h.2]
theorem kL{x:Mx}(h:InsideM ns x)(X:Ext ns ns')(v:Nat)(val:Bool):pm ns' x v val=pm ns x v val:=by
 unfold pm;rw[dB X h.1,dB X h.2]
theorem jl(wf:Wf a8 ns){x:Mx}(h:InsideM ns x){v:Nat}(hv:v<a8)(val:Bool):InsideM ns (pm ns x v val):=⟨eq wf h.1 hv val,eq wf h.2 hv val⟩
theorem oL(wf:Wf a8 ns){x:Mx}(h:InsideM ns x){b9:Nat}(hl:b9<a8)(hv:am ns x b9<b9)(val:Bool):am ns x b9<am ns (pm ns x (am ns x b9) val) b9:=by
 have a1:=dA wf h.1 (v:=am ns x b9) (by omega) (by unfold am;omega) val;have a2:=dA wf h.2 (v:=am ns x b9) (by omega) (by unfold am;omega) val;show _<min (min (nv ns (aw ns x.1 _ val)) (nv ns (aw ns x.2.1 _ val))) b9;omega
theorem IsBl.ext{b9 g:Nat}{x:Mx}(h:IsBl ns b9 x g)(X:Ext ns ns')(wf:Wf a8 ns)(wf':Wf a8 ns'):IsBl ns' b9 x g:=by
 have hl:=X.len;have lt:=h.lt;refine⟨h.inside.ext X,by omega,λe=>?_,?_⟩
 ·rw[X.ev wf wf' _ h.lt,X.ev wf wf' _ h.inside.1,X.ev wf wf' _ h.inside.2];exact h.ev e
 ·rw[ge h.inside X,X.va h.lt];exact h.va
def MemoB(ns:List Nd)(b9:Nat)(m:Mx->Option Nat):Prop:=∀x g,m x=some g->IsBl ns b9 x g
theorem MemoB.ext{i:Nat}{m:Mx->Option Nat}(h:MemoB ns i m)(X:Ext ns ns')(wf:Wf a8 ns)(wf':Wf a8 ns'):MemoB ns' i m:=λc f e=>(h c f e).ext X wf wf'
theorem MemoB.upd{i:Nat}{m:Mx->Option Nat}(h:MemoB ns i m){c:Mx}{f:Nat}(hf:IsBl ns i c f):MemoB ns i (upd m c f):=by
 intro d g hg;unfold YtjmclcmgpaofiaaGreat.upd at hg;by_cases e:d=c
 ·subst e;rw[if_pos rfl]at hg;cases hg;exact hf
 ·rw[if_neg e]at hg;exact h d g hg
theorem yg(wf:Wf a8 ns){b9 g:Nat}{x:Mx}(h:InsideM ns x)(hl:b9<a8)(hm:am ns x b9=b9)(hn:IsNode ns b9 (aw ns x.1 b9 x.2.2) (aw ns x.2.1 b9 x.2.2) g):IsBl ns b9 x g:=by
 have k1:b9<=nv ns x.1:=by unfold am at hm;omega
 have k2:b9<=nv ns x.2.1:=by unfold am at hm;omega
 refine⟨h,hn.lt,λe=>?_,by rw[hm];exact hn.va⟩;rw[hn.ev,dU wf h.1 hl k1,dU wf h.2 hl k2]
theorem yh(wf:Wf a8 ns){b9 l u g:Nat}{x:Mx}(h:InsideM ns x)(hl:b9<a8)(hv:am ns x b9<b9)(h0:IsBl ns b9 (pm ns x (am ns x b9) false) l)(h1:IsBl ns b9 (pm ns x (am ns x b9) true) u)(hn:IsNode ns (am ns x b9) l u g):IsBl ns b9 x g:=by
 refine⟨h,hn.lt,λe=>?_,hn.va⟩;have k1:am ns x b9<=nv ns x.1:=by unfold am;omega
 have k2:am ns x b9<=nv ns x.2.1:=by unfold am;omega
 have hv':am ns x b9<a8:=by omega
 have e0:=h0.ev e;have e1:=h1.ev e;simp only[pm,dU wf h.1 hv' k1,dU wf h.2 hv' k2]at e0 e1;rw[hn.ev,e0,e1];have ne:am ns x b9≠b9:=by omega
 cases hb:e (am ns x b9)
 ·rw[jG (e:=setE e b9 x.2.2) (b:=false) (by rw[cM _ _ ne];exact hb)];simp
 ·rw[jG (e:=setE e b9 x.2.2) (b:=true) (by rw[cM _ _ ne];exact hb)];simp
end
def fD(C:Cfg)(w:World)(ns:List Nd)(d9:Bool)(N:Nat)(m1:Nd->Option Nat)(m3:Nat->Option Nat)(b9:Nat)(x:Mx)(g:Nat)(e:Ending)(w':World):Prop :=
 ∃r ns' full' N' m2',e=.returned (.int .i64 ((r:Nat):Int)) /\ At C w w' ns' full' N' m1 m2' m3 /\ Ext ns ns' /\ ns'.length<=ns.length+g /\ N'<=N+g /\ r<ns'.length /\ (d9=true->full'=true) /\ (full'=false->MemoB ns' b9 m2' /\ IsBl ns' b9 x r)
section
variable {C:Cfg}{w:World}{ns:List Nd}{N:Nat}{m1:Nd->Option Nat}{m2:Mx->Option Nat}{m3:Nat->Option Nat}
theorem yj(h:Bu C w ns true N m1 m2 m3)(x:Mx)(b9:Nat) :
  Cl 226 #[.pointer (some ⟨C.b,0,none⟩),cF x,(b9:Int)] w λe w'=>e=.returned (.int .i64 0) /\ At C w w' ns true N m1 m2 m3:=by
 have hA:=(At.refl h).alloc (.cells #[(x.1:Int),(x.2.1:Int),.bool x.2.2] 296);obtain⟨b0,b1,b2,b3,b4,bf⟩:=h.reads;have lb:=h.ltb;clear h;go_enter func226,ntmps226;go_wp2_with fail;go_ret;exact⟨rfl,hA⟩
theorem yl(h:Bu C w ns false N m1 m2 m3){c2:Nat}(hc2:C.c2=some c2){x y f:Nat}{z:Bool}(b9:Nat)(ho:okx (x,y,z))(hf:m2 (x,y,z)=some f) :
  Cl 226 #[.pointer (some ⟨C.b,0,none⟩),cF (x,y,z),(b9:Int)] w λe w'=>e=.returned (f:Int) /\ At C w w' ns false N m1 m2 m3:=by
 have hA:=((At.refl h).alloc (.cells #[(x:Int),(y:Int),.bool z] 296)).drew;obtain⟨b0,b1,b2,b3,b4,bf⟩:=h.reads;have lb:=h.ltb;have hlook:=(hA.bu.o2 c2 hc2).look tz3 (x:=(x,y,z)) ho;rw[hf]at hlook;simp only[em,Option.getD_some,Option.isSome_some]at hlook;rw[hc2]at b3;clear h;go_enter func226,ntmps226;go_wp2_with fail;go_region;all_goals
  go_wp2_with fail;go_ret;exact⟨rfl,hA⟩
def jm(C:Cfg)(w wx:World)(ns:List Nd)(N:Nat)(m1:Nd->Option Nat)(m2:Mx->Option Nat)(m3:Nat->Option Nat)(x y:Nat)(z:Bool):Prop :=
 At C w wx ns false N m1 m2 m3 /\ Loc C wx w.heap.size #[(x:Int),(y:Int),.bool z] 296
theorem ym(h:Bu C w ns false N m1 m2 m3){c2:Nat}(hc2:C.c2=some c2){x y b9:Nat}{z:Bool}(hin:InsideM ns (x,y,z))(hf:m2 (x,y,z)=none)(hl:b9<C.a8)(hml:am ns (x,y,z) b9=b9)(hm:MemoB ns b9 m2)(hN:N+1<=1099511627776) :
  Cl 226 #[.pointer (some ⟨C.b,0,none⟩),cF (x,y,z),(b9:Int)] w (fD C w ns false N m1 m3 b9 (x,y,z) 1):=by
 have hl4:ns.length<=40000:=Nat.le_trans h.ar.le h.ar.most4;obtain⟨i1,i2⟩:=id hin;simp only[]at i1 i2;have ho:okx (x,y,z):=⟨by show x<_;omega,by show y<_;omega⟩;have hA:=((At.refl h).alloc (.cells #[(x:Int),(y:Int),.bool z] 296)).drew;have L:=(h.loc #[(x:Int),(y:Int),.bool z] 296).drew;obtain⟨b0,b1,b2,b3,b4,bf⟩:=h.reads;have lb:=h.ltb;have hlook:=(hA.bu.o2 c2 hc2).look tz3 (x:=(x,y,z)) ho;rw[hf]at hlook;simp only[em,Option.getD_none,Option.isSome_none]at hlook;rw[hc2]at b3;have wf:=h.ar.wf;have v16:=h.ar.vars16;have hmn:∀(ts:Array TypeId) (t:TypeId) (W:World),(Builtin.min_ ts t #[(nv ns x:Int),(nv ns y:Int),(b9:Int)]).run prog W=.ok (.int .i64 (b9:Int)) W:=λts t W=>by
  have:=ko (nv ns x) (nv ns y) b9 ts t W;rw[show min (min (nv ns x) (nv ns y)) b9=b9 from hml]at this;exact this
 have hml':Hq (am ns (x,y,z) b9=b9):=⟨hml⟩;clear h hml;go_enter func226,ntmps226;go_wp2_with fail;go_cut [7,8] (λv5 v6 wx=>v5=.int .i64 0 /\ v6=.bool false /\ jm C w wx ns N m1 m2 m3 x y z)
 case first =>
  go_region;all_goals
   go_wp2_with fail
   go_meet
   exact⟨rfl,rfl,hA,L⟩
 case rest =>
  obtain⟨rfl,rfl,hA1,L1⟩:=hcut;clear hA L hlook;obtain⟨⟨q0,q1,q2⟩,_⟩:=L1.reads;go_wp2_with fail;go_cut [9] (λv7 wx=>v7=.int .i64 (b9:Int) /\ jm C w wx ns N m1 m2 m3 x y z)
  case first =>
   have hA2:=hA1.drew;go_region_held3 (λw'=>w'.cell? ⟨w,0,none⟩=some (.int .i64 (x:Int)) /\ w'.cell? ⟨w,1,none⟩=some (.int .i64 (y:Int))) (go_keep)
    (first|(go_at_call 201;refine(variable_any (At.bu (w0:=w) ‹_›) ‹_›).mono ?_;rintro e wn⟨rfl,rfl⟩))
   go_wp2_with fail
   go_meet
   exact⟨rfl,hA2,L1.drew⟩
  case rest =>
   obtain⟨rfl,hA2,L2⟩:=hcut;clear hA1 L1 q0 q1 q2 hmn;have hs2:=hA2.kp.size;have hA3:=hA2.alloc (.cells #[(b9:Int),.int .i64 0,.int .i64 0] 144);have L3:=L2.alloc hA2.bu (.cells #[(b9:Int),.int .i64 0,.int .i64 0] 144);have M3:=hA2.loc #[(b9:Int),.int .i64 0,.int .i64 0] 144;have hne:w.heap.size≠wc.heap.size:=by have:=L2.out.lt;omega
   obtain⟨⟨q0,q1,q2⟩,_⟩:=L3.reads;go_wp2_with fail;refine(gq hA3.bu z i1 (by omega)).mono ?_;rintro e w4⟨rfl,hp⟩;have hA4:=hA3.then hp;have L4:=L3.kp hp.kp;have M4:=M3.kp hp.kp;clear hp L3 M3 hA3 q0 q1 q2;obtain⟨⟨q0,q1,q2⟩,_⟩:=L4.reads;obtain⟨⟨p0,p1,p2⟩,g0,g1,g2⟩:=M4.reads;generalize hp0:aw ns x b9 z=f0 at *;have hA5:=hA4.set (p:=⟨wc,1,none⟩) M4.out hs2 (.int .i64 (f0:Int));have L5:=L4.setOther (j:=1) M4.out hne (.int .i64 (f0:Int));have M5:=M4.set (j:=1) (.int .i64 (f0:Int));simp only[List.setIfInBounds_toArray,List.set_cons_succ,List.set_cons_zero]at M5;obtain⟨⟨q0',q1',q2'⟩,_⟩:=L5.reads;go_wp2_with fail;refine(gq hA5.bu z i2 (by omega)).mono ?_;rintro e w6⟨rfl,hp⟩;have hA6:=hA5.then hp;have L6:=L5.kp hp.kp;have M6:=M5.kp hp.kp;clear hp L5 M5 hA5 L4 M4 hA4 q0 q1 q2 p0 p1 p2 g0 g1 g2 q0' q1' q2';obtain⟨⟨p0,p1,p2⟩,g0,g1,g2⟩:=M6.reads;generalize hp1:aw ns y b9 z=f1 at *;have hA7:=hA6.set (p:=⟨wc,2,none⟩) M6.out hs2 (.int .i64 (f1:Int));have L7:=L6.setOther (j:=2) M6.out hne (.int .i64 (f1:Int));have M7:=M6.set (j:=2) (.int .i64 (f1:Int));simp only[List.setIfInBounds_toArray,List.set_cons_succ,List.set_cons_zero]at M7;obtain⟨⟨p0',p1',p2'⟩,_⟩:=M7.reads;go_wp2_with fail;have lt0:f0<ns.length:=by rw[<- hp0];exact eq wf i1 hl z
   have lt1:f1<ns.length:=by rw[<- hp1];exact eq wf i2 hl z
   have k1:b9<=nv ns x:=by have:=hml'.out;simp only[am]at this;omega
   have k2:b9<=nv ns y:=by have:=hml'.out;simp only[am]at this;omega
   refine(numberOf_any hA7.bu (v:=b9) (l:=f0) (u:=f1) hl lt0 lt1 (λ_=>⟨by rw[<- hp0];exact dA wf i1 hl k1 z,by rw[<- hp1];exact dA wf i2 hl k2 z⟩)).mono ?_;rintro e w8⟨f,ns3,full3,rfl,hp,X3,l3,lt3,mo3,s3⟩;have hA8:=(hA7.then hp).drew;have L8:=(L7.kp hp.kp).drew;clear hp L7 hA7 M7 M6 hA6 L6 p0 p1 p2 g0 g1 g2 p0' p1' p2';have wf3:=hA8.bu.ar.wf;have len3:ns3.length<=40000:=Nat.le_trans hA8.bu.ar.le hA8.bu.ar.most4;obtain⟨w9,hrun,hM9,hg9⟩:=(hA8.bu.o2 c2 hc2).store tz3 (by unfold maxLen;omega) (x:=(x,y,z)) ho (v:=f) (by omega);have hA9:=hA8.memo2 hc2 hM9 hg9;obtain⟨⟨q0,q1,q2⟩,_⟩:=L8.reads;obtain⟨d0,d1,d2,d3,d4,df⟩:=hA8.bu.reads;rw[hc2]at d3;simp only[em]at hrun;have hfin:fD C w ns false N m1 m3 b9 (x,y,z) 1 (.returned (f:Int)) w9:=by
    refine⟨f,ns3,full3,N+1,_,rfl,hA9,X3,by omega,by omega,lt3,(λe=>by cases e),λe3=>?_⟩;have J:IsBl ns3 b9 (x,y,z) f:=by
     refine yg wf3 (hin.ext X3) hl (by rw[ge hin X3];exact hml'.out) ?_;rw[dB X3 hin.1,dB X3 hin.2];show IsNode ns3 b9 (aw ns x b9 z) (aw ns y b9 z) f;rw[hp0,hp1];exact s3 e3
    exact⟨(hm.ext X3 wf wf3).upd J,J⟩
   clear hA8 hM9 hg9 L8 hA9;go_wp2_with fail;go_region;all_goals
    go_wp2_with fail;go_ret;exact hfin
end
end Go.Proofs.YtjmclcmgpaofiaaGreat
namespace Go.Proofs.YtjmclcmgpaofiaaGreat
open Tryz
section
variable {S:Nat->Bool}{a8:Nat}{ns ns':List Nd}
structure FitM(S:Nat->Bool)(b9:Nat)(ns:List Nd)(x:Mx)(k:Nat):Prop where
 d1:DepS S (ev ns x.1)
 d2:DepS S (ev ns x.2.1)
 hl:S b9=true
 le:cnS S (b9+1) (am ns x b9)<=k
theorem yn(ns:List Nd)(x:Mx)(b9:Nat):am ns x b9<=b9:=by unfold am;omega
theorem FitM.pos{b9 k:Nat}{x:Mx}(h:FitM S b9 ns x k):1<=k:=by
 have h1:=dV (a8:=b9+1) (Nat.lt_succ_self b9) h.hl;have h2:=cW (S:=S) (a8:=b9+1) (yn ns x b9);have:=h.le;omega
theorem FitM.down(wf:Wf a8 ns){b9 k:Nat}{x:Mx}(hx:InsideM ns x)(hl:b9<a8)(hv:am ns x b9<b9)(h:FitM S b9 ns x (k+1))(val:Bool):FitM S b9 ns (pm ns x (am ns x b9) val) k:=by
 have hvv:am ns x b9<a8:=by omega
 have k1:am ns x b9<=nv ns x.1:=by unfold am;omega
 have k2:am ns x b9<=nv ns x.2.1:=by unfold am;omega
 refine⟨h.d1.part wf hx.1 hvv k1 val,h.d2.part wf hx.2 hvv k2 val,h.hl,?_⟩;have hin:S (am ns x b9)=true:=by
  obtain⟨a,b,z⟩:=x;have hm:am ns (a,b,z) b9=nv ns a\/am ns (a,b,z) b9=nv ns b:=by simp only[am]at hv ⊢;omega
  rcases hm with e|e
  ·rw[e]at hvv ⊢;exact h.d1.var wf (va_lt wf hx.1 hvv) hx.1
  ·rw[e]at hvv ⊢;exact h.d2.var wf (va_lt wf hx.2 hvv) hx.2
 have hm:=oL wf hx hl hv val;have h1:=dV (a8:=b9+1) (by omega) hin;have h2:=cW (S:=S) (a8:=b9+1) (show am ns x b9+1<=am ns (pm ns x (am ns x b9) val) b9 from hm);have:=h.le;omega
theorem FitM.ext(wf:Wf a8 ns)(wf':Wf a8 ns'){b9 k:Nat}{x:Mx}(hx:InsideM ns x)(X:Ext ns ns')(h:FitM S b9 ns x k):FitM S b9 ns' x k :=
 ⟨h.d1.ext wf wf' X hx.1,h.d2.ext wf wf' X hx.2,h.hl,by rw[ge hx X];exact h.le⟩
structure FitW(S:Nat->Bool)(i j a8:Nat)(ns:List Nd)(f k:Nat):Prop where
 d:DepS S (ev ns f)
 hi:S i=true
 hj:S j=true
 le:cnS S a8 (min (nv ns f) i)<=k
theorem FitW.pos{i j f k:Nat}(hiv:i<a8)(h:FitW S i j a8 ns f k):1<=k:=by
 have h1:=dV hiv h.hi;have h2:=cW (S:=S) (a8:=a8) (show min (nv ns f) i<=i by omega);have:=h.le;omega
theorem FitW.step(wf:Wf a8 ns){i j f k:Nat}(f2:2<=f)(hf:f<ns.length)(hi:nv ns f<i)(h:FitW S i j a8 ns f (k+1)){g:Nat}(hg:nv ns f<nv ns g)(hd:DepS S (ev ns g)):FitW S i j a8 ns g k:=by
 refine⟨hd,h.hi,h.hj,?_⟩;have h1:=dV (wf.va f f2 hf) (h.d.var wf f2 hf);have h2:=cW (S:=S) (a8:=a8) (show nv ns f+1<=min (nv ns g) i by omega);have h3:=h.le;rw[show min (nv ns f) i=nv ns f by omega]at h3;omega
theorem FitW.lo(wf:Wf a8 ns){i j f k:Nat}(f2:2<=f)(hf:f<ns.length)(hi:nv ns f<i)(h:FitW S i j a8 ns f (k+1)):FitW S i j a8 ns (nl ns f) k :=
 h.step wf f2 hf hi (wf.vlo f f2 hf) (λe e' he=>by rw[jI wf f2 hf,jI wf f2 hf];exact h.d.set _ _ e e' he)
theorem FitW.hi'(wf:Wf a8 ns){i j f k:Nat}(f2:2<=f)(hf:f<ns.length)(hi:nv ns f<i)(h:FitW S i j a8 ns f (k+1)):FitW S i j a8 ns (nh ns f) k :=
 h.step wf f2 hf hi (wf.vhi f f2 hf) (λe e' he=>by rw[jJ wf f2 hf,jJ wf f2 hf];exact h.d.set _ _ e e' he)
theorem FitW.ext(wf:Wf a8 ns)(wf':Wf a8 ns'){i j f k:Nat}(hf:f<ns.length)(X:Ext ns ns')(h:FitW S i j a8 ns f k):FitW S i j a8 ns' f k :=
 ⟨h.d.ext wf wf' X hf,h.hi,h.hj,by rw[X.va hf];exact h.le⟩
theorem FitW.mix(wf:Wf a8 ns){i j f k:Nat}(hij:i<j)(hj:j<a8)(hf:f<ns.length)(hi:i<=nv ns f)(h:FitW S i j a8 ns f (k+1))(z:Bool):FitM S j ns (aw ns f i false,aw ns f i true,z) k:=by
 have hiv:i<a8:=by omega
 refine⟨h.d.part wf hf hiv hi false,h.d.part wf hf hiv hi true,h.hj,?_⟩;have v0:=dA wf hf hiv hi false;have v1:=dA wf hf hiv hi true;have hm:i+1<=am ns (aw ns f i false,aw ns f i true,z) j:=by simp only[am];omega
 have h1:=dV hiv h.hi;have h2:=cW (S:=S) (a8:=j+1) hm;have h3:=zT (S:=S) (v:=i+1) (show j+1<=a8 by omega);have h4:=h.le;rw[show min (nv ns f) i=i by omega]at h4;omega
end
end Go.Proofs.YtjmclcmgpaofiaaGreat
