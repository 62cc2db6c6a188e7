/-
  XAF.
-/
import Derived.Test.YtppbfikimalojaaGreatProg
import Derived.WalkKit
import Derived.OrdersIn
import Derived.RangeFuncCalls
import Derived.Deep.RegionHeld
import Derived.Test.YtppbfikimalojaaGreatXLy
import Derived.Test.YtppbfikimalojaaGreatXAE
import Derived.Test.YtppbfikimalojaaGreatXAA
set_option maxHeartbeats 8000000
set_option maxRecDepth 100000
namespace Go.Proofs.YtppbfikimalojaaGreat
open Tryz
open Go
theorem uB{P:Program}{o:Oper}{a:Act}{w:World}{K:Act->World->Prop}{Q:Exit->Act->World->Prop}(l n:Nat)(hd:∀c,o.op≠.defer c)(h:o.wp P a w K Q):o.wpIn (Fence.wide.inRound l) n P a w K Q:=by
 refine⟨λ_ _=>trivial,?_⟩;rw[Oper.semAt_eq _ _ _ hd];unfold Oper.wp at h;generalize (execOp a.eval o).run P w=r at h ⊢;cases r with
 | ok x w' =>
   cases x with
   | value v=>exact h
   | skip=>exact h
   | defer d=>exact h
   | enter f args=>exact⟨(λe=>by cases e),CallsIn.inRound l (callsIn_wide.2 h)⟩
   | row row args=>exact⟨(λe=>by cases e),λc cs _=>let ⟨v,w'',r,s⟩:=h c cs;⟨v,w'',r,stepsIn_wide.2 s⟩⟩
   | _=>exact h.elim
 | halt x w'=>cases x <;> exact h
theorem uC{P:Program}{md:Region.Mode}{ops:Array Oper}{Q:Exit->Act->World->Prop}(l n:Nat)(hd:∀(i:Nat) (o:Oper),ops[i]?=some o->∀c,o.op≠.defer c)(hQ:¬LetsOut Q):∀(fuel:Nat) (listed:Array Bool) (a:Act) (w:World),wpAny P md ops Q fuel listed a w->wpAnyIn (Fence.wide.inRound l) n P md ops Q fuel listed a w:=by
 intro fuel
 induction fuel with
 | zero=>exact λ_ _ _ h=>h
 | succ fuel ih =>
   intro listed a w h;refine⟨h.1,λi hi=>?_⟩;have hh:=h.2 i hi;unfold wpOp at hh;unfold wpOpIn;cases ho:ops[i]? with
   | none=>rw[ho]at hh;exact ih _ _ _ hh
   | some o =>
     rw[ho]at hh;simp only at hh ⊢
     split
     ·rename_i hw
      rw[if_pos hw]at hh;rcases hh with hh|⟨_,hh⟩
      ·exact Oper.wpIn_mono (λa w hk=>ih _ _ _ hk) (uB l n (hd i o ho) hh)
      ·exact absurd hh hQ
     ·rename_i hw
      rw[if_neg hw]at hh;exact⟨λ_ _=>trivial,ih _ _ _ hh⟩
def lP(ops:Array Oper):Bool:=ops.all λo=>match o.op with | .defer _=>false | _=>true
theorem uD{ops:Array Oper}(h:lP ops=true)(i:Nat)(o:Oper)(ho:ops[i]?=some o):∀c,o.op≠.defer c:=by
 intro c e;obtain⟨hi,rfl⟩:=Array.getElem?_eq_some_iff.1 ho;have:=(Array.all_eq_true.1 h) i hi;rw[e]at this;cases this
theorem uE{P:Program}{ops:Array Oper}{Q:Exit->Act->World->Prop}{S:World->Prop}{id l n:Nat}{a:Act}{w:World}(hm:P.follows .mixedOrders=true)(hd:lP ops=true)(hQ:¬LetsOut Q)(hS:S w.drew)
  (h:S w.drew->wpAnyH P .any ops Q S ops.size (Array.replicate ops.size false) a w.drew):(Code.region id ops true).wpIn (Fence.wide.inRound l) n P Q a w :=
 wpIn_region_any hm (uC l n (uD hd) hQ _ _ _ _ (wpAny_of_held _ _ _ _ (h hS)))
end Go.Proofs.YtppbfikimalojaaGreat
namespace Go.Proofs.YtppbfikimalojaaGreat
open Tryz
open Go.RowKit Go.Shelf Go.Maps
attribute [local go_sem] Oper.semAt_some
def j6:List Rl->Env->Bool
 | [],_=>false
 | r::l,x=>if phi r.a r.b r.c r.d x then r.ok else j6 l x
theorem uF(xs:List Rl):((came xs xs.length).map Prod.snd).reverse=xs:=by
 apply List.ext_getElem
 ·simp[came]
 ·intro i h1 h2;simp[came];rw[show xs.length-1-(xs.length-1-i)=i by omega,List.getElem?_eq_getElem h2];rfl
theorem uG(pre:List IR)(x:IR)(e:Env):j6 ((pre++[x]).map Prod.snd).reverse e=if phi x.2.a x.2.b x.2.c x.2.d e then x.2.ok else j6 (pre.map Prod.snd).reverse e:=by
 simp[j6]
theorem uH(r:Rl)(w:World):Calls prog 222 #[rv r] w λe w'=>e=.returned (.int .i64 ((if r.ok then 1 else 0:Nat):Int))/\Below w.heap.size w w':=by
 have D0:=Below.alloc' (Below.refl w.heap.size w) (.cells #[.bool r.ok,.int .u16 (r.a:Int),.int .u16 (r.b:Int),.int .u8 (r.c:Int),.int .u8 (r.d:Int)] 212);obtain⟨ok,ra,rb,rc,rd,_,_,_,_⟩:=r;cases ok
 ·go_enter func222,ntmps222;go_wp2_with fail;go_ret;exact⟨rfl,D0⟩
 ·go_enter func222,ntmps222;go_wp2_with fail;go_ret;exact⟨rfl,D0⟩
theorem lQ(r:Rl)(w:World):Calls prog 222 #[rv r] w λe w'=>∃q:Nat,e=.returned (.int .i64 (q:Int))/\Hid (q=if r.ok then 1 else 0)/\Below w.heap.size w w' :=
 (uH r w).mono λ_ _ ⟨h1,h2⟩=>⟨_,h1,rfl,h2⟩
def Box5(W:World)(B:Nat)(r:Rl):Prop:=W.heap[B]?=some (.cells #[.bool r.ok,.int .u16 (r.a:Int),.int .u16 (r.b:Int),.int .u8 (r.c:Int),.int .u8 (r.d:Int)] 212 (0,0))
theorem Box5.cells{W:World}{B:Nat}{r:Rl}(h:Box5 W B r):W.cell? ⟨B,0,none⟩=some (.bool r.ok)/\W.cell? ⟨B,1,none⟩=some (.int .u16 (r.a:Int))/\W.cell? ⟨B,2,none⟩=some (.int .u16 (r.b:Int))/\W.cell? ⟨B,3,none⟩=some (.int .u8 (r.c:Int))/\W.cell? ⟨B,4,none⟩=some (.int .u8 (r.d:Int)):=by
 refine⟨?_,?_,?_,?_,?_⟩ <;>(rw[cell_of_row W B _ _ _ _ h];rfl)
section
variable {b9 a M:Nat}{W W':World}{ns:List Nd}
theorem Ar.book{b8 c9 B:Nat}{row:Option Nat}(h:Ar b9 a M b8 c9 W ns)(hg:W.grownBy W' row)(hr:∀r,row=some r->B<=r/\∃o:Obj,W.heap[r]?=some o/\o.isCells=false)(hM:M<B):Ar b9 a M b8 c9 W' ns:=by
 obtain⟨cur,hrow,_,rl⟩:=h.row;obtain⟨g,cap,cs,t,hb,_⟩:=h.blk;refine h.same (hg.block a h.lta (λe=>?_)) (hg.block M h.ltM (λe=>?_)) (hg.block _ rl (λe=>?_))
 ·obtain⟨_,o,ho,hc⟩:=hr a e.symm;rw[hb]at ho;cases ho;cases hc
 ·have:=(hr M e.symm).1;omega
 ·obtain⟨_,o,ho,hc⟩:=hr _ e.symm;rw[hrow]at ho;cases ho;cases hc
theorem Ar.outBox{b8 c9 i:Nat}{cs:Array Value}{t:TypeId}(h:Ar b9 a M b8 c9 W ns)(hb:W.heap[i]?=some (.cells cs t (0,0)))(h1:t≠82/\t≠85)(h2:t≠143):Loc (ca b9 a M b8 c9) W i cs t:=by
 refine⟨⟨(Array.getElem?_eq_some_iff.1 hb).1,?_,λe=>?_⟩,hb⟩
 ·have na:i≠a:=λe=>by
   obtain⟨g,cap,cs,t,ha,hc,_⟩:=h.blk;rw[e,ha]at hb;simp only[Option.some.injEq,Obj.cells.injEq]at hb;rcases hc.ty with e1|e1
   ·exact h1.1 (hb.2.1.symm.trans e1)
   ·exact h1.2 (hb.2.1.symm.trans e1)
  rintro(e|e|e|e|e|e)
  ·exact na e
  ·exact na e
  ·have e':i=M:=e;obtain⟨num,hm,_⟩:=h.map;obtain⟨es,clock,hM⟩:=hm.isMap;rw[e',hM]at hb;simp at hb
  ·cases e
  ·cases e
  ·cases e
 ·have e':i=rowOf W a:=e;obtain⟨cur,hrow,_⟩:=h.row;rw[e',hrow]at hb;simp only[Option.some.injEq,Obj.cells.injEq]at hb;exact h2 hb.2.1.symm
theorem Kp.keepsFrom{b8 c9 B:Nat}(k:Kp (ca b9 a M b8 c9) W W')(h:Ar b9 a M b8 c9 W ns)(hM:M<B):KeepsFrom B W W':=by
 refine⟨k.size,λi o hB hi ho=>?_⟩;obtain⟨cur,hrow,_,rl⟩:=h.row;obtain⟨g,cap,cs,t,hb,_⟩:=h.blk;refine(k.blk i (Array.getElem?_eq_some_iff.1 hi).1 ?_ (λe=>?_)).trans hi
 ·have na:i≠a:=λe=>by
   rw[e,hb]at hi;cases hi;cases ho
  rintro(e|e|e|e|e|e)
  ·exact na e
  ·exact na e
  ·have e':i=M:=e;omega
  ·cases e
  ·cases e
  ·cases e
 ·have e':i=rowOf W a:=e;rw[e',hrow]at hi;cases hi;cases ho
end
theorem OpPost.pair{b9 a M b8 c9:Nat}{w w':World}{ns:List Nd}{g:Nat}{φ:Env->Bool}{e:Ending}(h:OpPost b9 a M b8 c9 w ns g φ e w') :
  ∃(ns':List Nd) (v er:Int),e=.returned (.tuple #[.int .i64 v,.int .i64 er])/\Ar b9 a M b8 c9 w' ns'/\Kp (ca b9 a M b8 c9) w w'/\Ext ns ns'/\ns'.length<=ns.length+g /\
    Hid ((er=0/\∃f:Nat,v=(f:Int)/\f<ns'.length/\∀x,ev ns' f x=φ x)\/(er=6/\v=0/\ns'.length=c9)):=by
 obtain⟨ns',r1,r2,r3,r4,⟨f,e1,e2⟩|⟨e1,e2⟩⟩:=h
 ·exact⟨ns',f,0,e1,r1,r2,r3,r4,Or.inl ⟨rfl,f,rfl,e2⟩⟩
 ·exact⟨ns',0,6,e1,r1,r2,r3,r4,Or.inr ⟨rfl,rfl,e2⟩⟩
theorem Ar.notMine{b9 a M b8 c9:Nat}{w:World}{ns:List Nd}(h:Ar b9 a M b8 c9 w ns){i:Nat}(hi:i<b9):¬(ca b9 a M b8 c9).mine i:=by
 have h1:=h.lowA;have h2:=h.lowM;rintro(e|e|e|e|e|e)
 ·have:i=a:=e;omega
 ·have:i=a:=e;omega
 ·have:i=M:=e;omega
 ·cases e
 ·cases e
 ·cases e
theorem Ar.kp_below{b9 a M b8 c9:Nat}{w w':World}{ns:List Nd}(h:Ar b9 a M b8 c9 w ns)(k:Kp (ca b9 a M b8 c9) w w'):Below b9 w w':=by
 obtain⟨_,_,rb,rl⟩:=h.row;have h1:=h.lowA;have h2:=h.lta;exact⟨k.os,k.tape,k.output,k.size,λi hi=>k.blk i (by omega) (h.notMine hi) (by show i≠rowOf w a;omega)⟩
def JI(b9 a M n0 L:Nat)(v:Value)(w:World)(pre:List IR)(W:World):Prop :=
 ∃(ns:List Nd) (F:Nat),Ar b9 a M 14 40000 W ns/\F<ns.length/\(∀x,ev ns F x=j6 (pre.map Prod.snd).reverse x)/\ns.length<=L+pre.length*16427 /\
   Boxed W n0 76 (.pointer (some ⟨a,0,none⟩))/\Boxed W (n0+1) 3 (.int .i64 0)/\Boxed W (n0+1+1) 34 (.int .i64 0)/\Boxed W (n0+1+1+1) 3 (.int .i64 (F:Int))/\Boxed W (n0+1+1+1+1) 53 v/\Below b9 w W
def JX(b9 a M n0 L k:Nat)(w:World)(c:Code)(W:World):Prop :=
 c=.ret/\40000<=L+k*16427/\∃ns:List Nd,Ar b9 a M 14 40000 W ns/\Boxed W (n0+1) 3 (.int .i64 0)/\Boxed W (n0+1+1) 34 (.int .i64 6)/\Below b9 w W
theorem Box5.own{B:Nat}{r:Rl}{W W':World}{row:Option Nat}(h:Box5 W B r)(hg:W.grownBy W' row)(hr:∀r,row=some r->∃o:Obj,W.heap[r]?=some o/\o.isCells=false):Box5 W' B r :=
 (grownBy_keeps_cells hg hr h rfl).trans h
theorem Ar.box{b9 a M b8 c9 i:Nat}{W W':World}{ns:List Nd}{t:TypeId}{v:Value}(h:Ar b9 a M b8 c9 W ns)(k:Kp (ca b9 a M b8 c9) W W')(hb:Boxed W i t v)(h1:t≠82/\t≠85)(h2:t≠143):Boxed W' i t v:=((h.outBox hb h1 h2).kp k).blk
theorem Ar.box5{b9 a M b8 c9 i:Nat}{W W':World}{ns:List Nd}{r:Rl}(h:Ar b9 a M b8 c9 W ns)(k:Kp (ca b9 a M b8 c9) W W')(hb:Box5 W i r):Box5 W' i r:=((h.outBox hb (by decide) (by decide)).kp k).blk
theorem JI.own{b9 a M n0 L B:Nat}{v:Value}{w:World}(hM:M<B)(hb:b9<=w.heap.size)(hB:b9<=B):OwnFrom B (JI b9 a M n0 L v w):=by
 rintro pre W W' row⟨ns,F,h1,h2,h3,hL,b0,b1,b2,b3,b4,D⟩ hg hr;have hr':∀r,row=some r->∃o:Obj,W.heap[r]?=some o/\o.isCells=false:=λr e=>(hr r e).2;exact⟨ns,F,h1.book hg hr hM,h2,h3,hL,boxed_own n0 _ (λ_:Unit=>_) () W W' row b0 hg hr',boxed_own _ _ (λ_:Unit=>_) () W W' row b1 hg hr',boxed_own _ _ (λ_:Unit=>_) () W W' row b2 hg hr',boxed_own _ _ (λ_:Unit=>_) () W W' row b3 hg hr',boxed_own _ _ (λ_:Unit=>_) () W W' row b4 hg hr',ownFrom_below hb hB () W W' row D hg hr⟩
theorem JX.own{b9 a M n0 L B:Nat}{w:World}(hM:M<B)(hb:b9<=w.heap.size)(hB:b9<=B)(c:Code):OwnFrom B (λ(pre:List IR) W=>JX b9 a M n0 L pre.length w c W):=by
 rintro pre W W' row⟨e,hL,ns,h1,b1,b2,D⟩ hg hr;have hr':∀r,row=some r->∃o:Obj,W.heap[r]?=some o/\o.isCells=false:=λr e=>(hr r e).2;exact⟨e,hL,ns,h1.book hg hr hM,boxed_own _ _ (λ_:Unit=>_) () W W' row b1 hg hr',boxed_own _ _ (λ_:Unit=>_) () W W' row b2 hg hr',ownFrom_below hb hB () W W' row D hg hr⟩
structure RS(b9 a M n0 B Bx F:Nat)(r:Rl)(v:Value)(w W1:World)(ns:List Nd)(W:World):Prop where
 ar:Ar b9 a M 14 40000 W ns
 b0:Boxed W n0 76 (.pointer (some ⟨a,0,none⟩))
 b1:Boxed W (n0+1) 3 (.int .i64 0)
 b2:Boxed W (n0+1+1) 34 (.int .i64 0)
 b3:Boxed W (n0+1+1+1) 3 (.int .i64 (F:Int))
 b4:Boxed W (n0+1+1+1+1) 53 v
 bx:Box5 W Bx r
 low:Below b9 w W
 kf:KeepsFrom B W1 W
 kb:Below b9 W1 W
 mB:M<B
 bn:b9<=n0
section
variable {b9 a M n0 B Bx F:Nat}{r:Rl}{v:Value}{w W1 W W':World}{ns ns':List Nd}
theorem RS.step(h:RS b9 a M n0 B Bx F r v w W1 ns W)(k:Kp (ca b9 a M 14 40000) W W')(A:Ar b9 a M 14 40000 W' ns'):RS b9 a M n0 B Bx F r v w W1 ns' W' :=
 ⟨A,h.ar.box k h.b0 (by decide) (by decide),h.ar.box k h.b1 (by decide) (by decide),h.ar.box k h.b2 (by decide) (by decide),h.ar.box k h.b3 (by decide) (by decide),h.ar.box k h.b4 (by decide) (by decide),h.ar.box5 k h.bx,
  h.low.trans (h.ar.kp_below k),h.kf.trans (k.keepsFrom h.ar h.mB),h.kb.trans (h.ar.kp_below k),h.mB,h.bn⟩
theorem RS.below(h:RS b9 a M n0 B Bx F r v w W1 ns W)(hb:Below W.heap.size W W'):RS b9 a M n0 B Bx F r v w W1 ns W':=h.step (h.ar.kbelow hb) (h.ar.below hb)
theorem RS.drew(h:RS b9 a M n0 B Bx F r v w W1 ns W):RS b9 a M n0 B Bx F r v w W1 ns W.drew :=
 ⟨h.ar.drew',h.b0,h.b1,h.b2,h.b3,h.b4,h.bx,h.low.drew,h.kf.trans ((KeepsOthers.drew _).from _),h.kb.drew,h.mB,h.bn⟩
theorem RS.four(h:RS b9 a M n0 B Bx F r v w W1 ns W):W.cell? ⟨n0,0,none⟩=some (.pointer (some ⟨a,0,none⟩))/\W.cell? ⟨Bx,0,none⟩=some (.bool r.ok)/\W.cell? ⟨Bx,1,none⟩=some (.int .u16 (r.a:Int))/\W.cell? ⟨Bx,2,none⟩=some (.int .u16 (r.b:Int))/\W.cell? ⟨Bx,3,none⟩=some (.int .u8 (r.c:Int))/\W.cell? ⟨Bx,4,none⟩=some (.int .u8 (r.d:Int)):=⟨h.b0.cell,h.bx.cells⟩
structure RT(b9 a M n0 B Bx:Nat)(u:Int)(r:Rl)(v:Value)(w W1:World)(ns:List Nd)(W:World):Prop where
 ar:Ar b9 a M 14 40000 W ns
 b0:Boxed W n0 76 (.pointer (some ⟨a,0,none⟩))
 b1:Boxed W (n0+1) 3 (.int .i64 0)
 b2:Boxed W (n0+1+1) 34 (.int .i64 0)
 b3:Boxed W (n0+1+1+1) 3 (.int .i64 u)
 b4:Boxed W (n0+1+1+1+1) 53 v
 bx:Box5 W Bx r
 low:Below b9 w W
 kf:KeepsFrom B W1 W
 kb:Below b9 W1 W
theorem RT.four{u:Int}(h:RT b9 a M n0 B Bx u r v w W1 ns W):W.cell? ⟨n0,0,none⟩=some (.pointer (some ⟨a,0,none⟩))/\W.cell? ⟨Bx,0,none⟩=some (.bool r.ok)/\W.cell? ⟨Bx,1,none⟩=some (.int .u16 (r.a:Int))/\W.cell? ⟨Bx,2,none⟩=some (.int .u16 (r.b:Int))/\W.cell? ⟨Bx,3,none⟩=some (.int .u8 (r.c:Int))/\W.cell? ⟨Bx,4,none⟩=some (.int .u8 (r.d:Int)):=⟨h.b0.cell,h.bx.cells⟩
theorem Ar.setBox{b8 c9 i:Nat}{t:TypeId}{x:Value}(h:Ar b9 a M b8 c9 W ns)(hb:Boxed W i t x)(h1:t≠82/\t≠85)(h2:t≠143)(u:Value):Ar b9 a M b8 c9 (W.setCell ⟨i,0,none⟩ u) ns:=by
 have L:=h.outBox hb h1 h2;obtain⟨_,_,_,rl⟩:=h.row;exact h.same (Below.heap_setCell W _ u a (λe=>L.out.not (Or.inl e.symm))) (Below.heap_setCell W _ u M (λe=>L.out.not (Or.inr (Or.inr (Or.inl e.symm))))) (Below.heap_setCell W _ u _ (λe=>L.out.ne e.symm))
theorem RS.set(h:RS b9 a M n0 B Bx F r v w W1 ns W)(u:Int):RT b9 a M n0 B Bx u r v w W1 ns (W.setCell ⟨n0+1+1+1,0,none⟩ (.int .i64 u)):=by
 have hx:n0+1+1+1≠Bx:=λe=>by
  have h1:=h.b3;have h2:=h.bx;unfold Boxed at h1;unfold Box5 at h2;rw[e,h2]at h1;simp at h1
 have hbn:=h.bn;exact⟨h.ar.setBox h.b3 (by decide) (by decide) _,h.b0.other (by omega) _,h.b1.other (by omega) _,h.b2.other (by omega) _,h.b3.set _,h.b4.other (by omega) _,(Below.heap_setCell W _ _ Bx (λe=>hx e.symm)).trans h.bx,
  h.low.setCell (p:=⟨n0+1+1+1,0,none⟩) (by show b9<=n0+1+1+1;omega) _,h.kf.trans ((KeepsOthers.setCell _ _ _).from _),h.kb.setCell (p:=⟨n0+1+1+1,0,none⟩) (by show b9<=n0+1+1+1;omega) _⟩
theorem RS.rt(h:RS b9 a M n0 B Bx F r v w W1 ns W):RT b9 a M n0 B Bx (F:Int) r v w W1 ns W:=⟨h.ar,h.b0,h.b1,h.b2,h.b3,h.b4,h.bx,h.low,h.kf,h.kb⟩
theorem RT.two{u:Int}(h:RT b9 a M n0 B Bx u r v w W1 ns W):W.cell? ⟨n0+1,0,none⟩=some (.int .i64 0)/\W.frozen? ⟨n0+1,0,none⟩=false/\(W.setCell ⟨n0+1,0,none⟩ (.int .i64 0)).cell? ⟨n0+1+1,0,none⟩=some (.int .i64 0)/\(W.setCell ⟨n0+1,0,none⟩ (.int .i64 0)).frozen? ⟨n0+1+1,0,none⟩=false :=
 ⟨h.b1.cell,h.b1.frozen,(h.b2.other (by omega) _).cell,(h.b2.other (by omega) _).frozen⟩
theorem RT.err{u:Int}{L k:Nat}(h:RT b9 a M n0 B Bx u r v w W1 ns W)(bn:b9<=n0)(hL:40000<=L+k*16427):KeepsFrom B W1 ((W.setCell ⟨n0+1,0,none⟩ (.int .i64 0)).setCell ⟨n0+1+1,0,none⟩ (.int .i64 6))/\JX b9 a M n0 L k w .ret ((W.setCell ⟨n0+1,0,none⟩ (.int .i64 0)).setCell ⟨n0+1+1,0,none⟩ (.int .i64 6)):=by
 have b2':=h.b2.other (B':=n0+1) (by omega) (.int .i64 0);refine⟨h.kf.trans (((KeepsOthers.setCell _ _ _).trans (KeepsOthers.setCell _ _ _)).from _),rfl,hL,ns,(h.ar.setBox h.b1 (by decide) (by decide) _).setBox b2' (by decide) (by decide) _,(h.b1.set _).other (by omega) _,b2'.set _,?_⟩;exact(h.low.setCell (p:=⟨n0+1,0,none⟩) (by show b9<=n0+1;omega) _).setCell (p:=⟨n0+1+1,0,none⟩) (by show b9<=n0+1+1;omega) _
end
theorem putD{b9 a M n0 D:Nat}{w W:World}{ns:List Nd}{u x:Value}{o:Obj}(A:Ar b9 a M 14 40000 W ns)(b1:Boxed W (n0+1) 3 u)(b2:Boxed W (n0+1+1) 34 x)(D1:Below b9 w W)(hK:W.heap[D]?=some (.deferred (some [])))(hD:n0+5<=D)(hM:M<n0)(hb:b9<=n0) :
  Ar b9 a M 14 40000 (W.putObj D o) ns/\(W.putObj D o).cell? ⟨n0+1,0,none⟩=some u/\(W.putObj D o).cell? ⟨n0+1+1,0,none⟩=some x/\Below b9 w (W.putObj D o):=by
 have g:=grownBy_putObj' W D o;have hD':D<W.heap.size:=(Array.getElem?_eq_some_iff.1 hK).1;exact⟨A.book (B:=n0) g (λr e=>by cases e;exact⟨by omega,_,hK,rfl⟩) hM,(b1.kept g (λe=>by cases e;omega)).cell,(b2.kept g (λe=>by cases e;omega)).cell,D1.grown g (by omega) (λk e=>by cases e;omega)⟩
theorem uI{b9 a M:Nat}{w:World}{ns:List Nd}(h:Ar b9 a M 14 40000 w ns)(A:Option Addr)(len cap:Nat)(xs:List Rl)(hR:Rules b9 w (.slice A len cap) xs)(hlen:xs.length<=8) :
  Calls prog 208 #[.pointer (some ⟨a,0,none⟩),.slice A len cap] w λe w'=>∃ns',Ar b9 a M 14 40000 w' ns'/\Below b9 w w' /\
   ((∃f:Nat,e=.returned (.tuple #[.int .i64 (f:Int),.int .i64 0])/\f<ns'.length/\∀x,ev ns' f x=j6 xs x)\/(e=.returned (.tuple #[.int .i64 0,.int .i64 6])/\40000<=ns.length+xs.length*16427)):=by
 refine(callsIn_wide (n:=4)).1 ?_;refine callsIn_of_wp_marks func208 rfl trivial ?_ rfl;simp only[ntmps208,List.size_toArray,List.length_cons,List.length_nil,Nat.reduceAdd,Nat.reduceSub,Array.replicate_succ,Array.replicate_zero,List.push_toArray,List.append_toArray,List.nil_append,List.cons_append]
 gi_wp2_with (refine⟨trivial,?_⟩;gi_at_call 221;refine(pd Fence.wide _ trivial rfl _ _ _ _).mono ?_;rintro e w'⟨rfl,rfl⟩)
 have ltM:=h.ltM;have lta:=h.lta;have lowA:=h.lowA;have q0:=((((Boxed.new w 76 (.pointer (some ⟨a,0,none⟩))).alloc (.cells #[.int .i64 0] 3)).alloc (.cells #[.int .i64 0] 34)).alloc (.cells #[.int .i64 0] 3)).alloc (.cells #[.slice A len cap] 53);have q1:=(((Boxed.new (w.alloc (.cells #[.pointer (some ⟨a,0,none⟩)] 76)) 3 (.int .i64 0)).alloc (.cells #[.int .i64 0] 34)).alloc (.cells #[.int .i64 0] 3)).alloc (.cells #[.slice A len cap] 53);have q2:=((Boxed.new ((w.alloc (.cells #[.pointer (some ⟨a,0,none⟩)] 76)).alloc (.cells #[.int .i64 0] 3)) 34 (.int .i64 0)).alloc (.cells #[.int .i64 0] 3)).alloc (.cells #[.slice A len cap] 53);have q3:=(Boxed.new (((w.alloc (.cells #[.pointer (some ⟨a,0,none⟩)] 76)).alloc (.cells #[.int .i64 0] 3)).alloc (.cells #[.int .i64 0] 34)) 3 (.int .i64 0)).alloc (.cells #[.slice A len cap] 53);have q4:=Boxed.new ((((w.alloc (.cells #[.pointer (some ⟨a,0,none⟩)] 76)).alloc (.cells #[.int .i64 0] 3)).alloc (.cells #[.int .i64 0] 34)).alloc (.cells #[.int .i64 0] 3)) 53 (.slice A len cap);simp only[World.size_alloc]at q1 q2 q3 q4;have D0:Below b9 w (((((w.alloc (.cells #[.pointer (some ⟨a,0,none⟩)] 76)).alloc (.cells #[.int .i64 0] 3)).alloc (.cells #[.int .i64 0] 34)).alloc (.cells #[.int .i64 0] 3)).alloc (.cells #[.slice A len cap] 53)) :=
  (((((Below.refl _ w).alloc (by omega) _).alloc (by simp;omega) _).alloc (by simp;omega) _).alloc (by simp;omega) _).alloc (by simp;omega) _
 have A0:Ar b9 a M 14 40000 (((((w.alloc (.cells #[.pointer (some ⟨a,0,none⟩)] 76)).alloc (.cells #[.int .i64 0] 3)).alloc (.cells #[.int .i64 0] 34)).alloc (.cells #[.int .i64 0] 3)).alloc (.cells #[.slice A len cap] 53)) ns:=((((h.alloc _).alloc _).alloc _).alloc _).alloc _;have hsz:(((((w.alloc (.cells #[.pointer (some ⟨a,0,none⟩)] 76)).alloc (.cells #[.int .i64 0] 3)).alloc (.cells #[.int .i64 0] 34)).alloc (.cells #[.int .i64 0] 3)).alloc (.cells #[.slice A len cap] 53)).heap.size=w.heap.size+5:=by simp
 obtain⟨W0,hW0⟩:∃W0,(((((w.alloc (.cells #[.pointer (some ⟨a,0,none⟩)] 76)).alloc (.cells #[.int .i64 0] 3)).alloc (.cells #[.int .i64 0] 34)).alloc (.cells #[.int .i64 0] 3)).alloc (.cells #[.slice A len cap] 53))=W0:=⟨_,rfl⟩;rw[hW0]at q0 q1 q2 q3 q4 D0 A0 hsz ⊢;clear hW0;have l2:=h.wf.len;refine wpIn_rangeFunc_ownH rfl (by omega) (gf:=227) (lb:=#[.pointer (some ⟨w.heap.size+1+1+1+1,0,none⟩)]) rfl trivial (enters_of func227 (by kernel_rfl) rfl)
  (pe Fence.wide 3 trivial rfl (by omega) (w.heap.size+1+1+1+1) b9 (.slice A len cap) xs (by omega) W0 (by omega) q4 (hR.below D0)) jr
  (λW l o o' hl ho hc _=>⟨(Below.refl b9 W).grown (grownBy_putObj' W l o') (by have:=(Array.getElem?_eq_some_iff.1 ho).1;omega) (λk e=>by cases e;omega),λb=>b.kept (grownBy_putObj' W l o') (λe=>by cases e;omega)⟩)
  (Below.refl _ _) (λ_=>rfl)
  (JI b9 a M w.heap.size ns.length (.slice A len cap) w) (λc pre W=>JX b9 a M w.heap.size ns.length pre.length w c W)
  (JI.own (by omega) (by omega) (by omega)) (λc=>JX.own (by omega) (by omega) (by omega) c)
  ⟨ns,0,A0,by omega,(λx=>rfl),by simp,q0,q1,q2,q3,q4,D0⟩
  (λx a' W=>∃Bx,Box5 W Bx x.2/\a'={ tmps:=#[.pointer (some ⟨a,0,none⟩),.slice A len cap,.pointer (some ⟨w.heap.size,0,none⟩),undef,.pointer (some ⟨w.heap.size+1,0,none⟩),.pointer (some ⟨w.heap.size+1+1,0,none⟩),.pointer (some ⟨w.heap.size+1+1+1,0,none⟩),undef,.pointer (some ⟨Bx,0,none⟩),undef,undef,.slice A len cap,.func (.func 227) #[] #[.pointer (some ⟨w.heap.size+1+1+1+1,0,none⟩)],.int .i64 (x.1:Int),rv x.2,undef,undef,undef,undef,undef,undef,undef,undef,undef,undef,undef,undef,undef,undef,undef,undef,undef,undef,undef,undef,undef,undef,undef],defers:=[] })
  (λx a' _ X Y row hs hg hr=>by obtain⟨Bx,h1,h2⟩:=hs;exact⟨Bx,h1.own hg (λr e=>(hr r e).2),h2⟩)
  ?assign ?body ?done ?stop
 case assign =>
  rintro l pre x W K⟨ns1,F1,A1,lF,eF,hL,b0,b1,b2,b3,b4,D1⟩ hK;have hsW:=D1.size;obtain⟨i,⟨ok,ra,rb,rc,rd,g1,g2,g3,g4⟩⟩:=x;dsimp only[eQ]
  gi_wp2
  exact hK _ _ ((KeepsOthers.alloc _ _).from _) ⟨(Below.refl _ W).alloc (by omega) _,λb=>b.alloc _⟩ ⟨ns1,F1,A1.alloc _,lF,eF,hL,b0.alloc _,b1.alloc _,b2.alloc _,b3.alloc _,b4.alloc _,D1.alloc (by omega) _⟩ ⟨W.heap.size,Go.heap_alloc_new W _,rfl⟩
 case body =>
  rintro l pre x a' W hl⟨r0,hr0⟩ ⟨ns1,F1,A1,lF,eF,hL,b0,b1,b2,b3,b4,D1⟩ ⟨Bx,bX,rfl⟩ hlt;obtain⟨xi,r⟩:=x;have s1:RS b9 a M w.heap.size W0.heap.size Bx F1 r (.slice A len cap) w W ns1 W:=⟨A1,b0,b1,b2,b3,b4,bX,D1,KeepsFrom.refl _ _,Below.refl _ _,by omega,by omega⟩;clear A1 b0 b1 b2 b3 b4 bX;obtain⟨cA,x0,x1,x2,x3,x4⟩:=s1.four
  gi_wp2
  refine⟨trivial,(CallsIn.inRound l (callsIn_wide.2 (eS s1.ar (Nat.le_refl _) r.a r.b r.c r.d r.ha r.hb r.hc r.hd))).mono ?_⟩;rintro e W2 hp2;obtain⟨ns2,g2,er2,rfl,A2,K2,X2,hL2,d2⟩:=hp2.pair;have s2:=s1.step K2 A2;have wf1:=s1.ar.wf;clear hp2 A2 K2 cA x0 x1 x2 x3 x4 s1;obtain⟨cA,x0,x1,x2,x3,x4⟩:=s2.four;obtain⟨c1,f1,c2,f2⟩:=s2.rt.two;have c3:=s2.b3.cell;rcases d2.out with⟨rfl,F2,rfl,lt2,_,ev2⟩|⟨rfl,rfl,full2⟩
  ·have lF2:F1<ns2.length:=Nat.lt_of_lt_of_le lF X2.len;have wf2:=s2.ar.wf;have l2':=wf2.len;have EF:Hid (∀x,ev ns2 F1 x=j6 (pre.map Prod.snd).reverse x):=λx=>(X2.ev wf1 wf2 _ lF x).trans (eF x);have EV:Hid (∀x,ev ns2 F2 x=phi r.a r.b r.c r.d x):=ev2;have IT:Hid (∀w' (q:Nat),Hid (q=if r.ok then 1 else 0)->RS b9 a M w.heap.size W0.heap.size Bx F1 r (.slice A len cap) w W ns2 w'->Calls prog 181 #[.pointer (some ⟨a,0,none⟩),.int .i64 (F2:Int),.int .i64 (q:Int),.int .i64 (F1:Int)] w' λe w''=>∃(ns':List Nd) (v er:Int),e=.returned (.tuple #[.int .i64 v,.int .i64 er])/\Ar b9 a M 14 40000 w'' ns'/\Kp (ca b9 a M 14 40000) w' w''/\Ext ns2 ns'/\ns'.length<=ns2.length+(2 ^ 14-1) /\
     Hid ((er=0/\∃f:Nat,v=(f:Int)/\f<ns'.length/\∀x,ev ns' f x=j6 ((pre++[(xi,r)]).map Prod.snd).reverse x)\/(er=6/\v=0/\ns'.length=40000))):=λw' q hq hs=>by
    have hq':q=if r.ok then 1 else 0:=hq
    refine(pw hs.ar (c:=(F2,q,F1)) ⟨lt2,by show q<_;rw[hq'];split <;> omega,lF2⟩).mono λe w'' hp=>(hp.of (ψ:=λx=>j6 ((pre++[(xi,r)]).map Prod.snd).reverse x) (λx=>?_)).pair;rw[uG,<- EF.out,EV.out,hq'];cases r.ok
    ·simp[ev0]
    ·simp[ev1]
   have s2d:=s2.drew;clear ev2 eF d2 EF EV
   gi_wp2
   refine uE (S:=(λw'=>w'.cell? ⟨w.heap.size,0,none⟩=some (.pointer (some ⟨a,0,none⟩))/\w'.cell? ⟨Bx,0,none⟩=some (.bool r.ok)/\w'.cell? ⟨Bx,1,none⟩=some (.int .u16 (r.a:Int))/\w'.cell? ⟨Bx,2,none⟩=some (.int .u16 (r.b:Int))/\w'.cell? ⟨Bx,3,none⟩=some (.int .u8 (r.c:Int))/\w'.cell? ⟨Bx,4,none⟩=some (.int .u8 (r.d:Int)))) (by kernel_rfl) (by kernel_rfl) (λ⟨_,_,e⟩=>e) (RS.four ‹_›) (λhHeld=>?_);refine tk 0 ?_;try simp only[ly]
   refine tk 1 ?_;try simp only[ly]
   refine tk 2 ?_;try simp only[ly]
   refine wpAnyH_ready (rs:=[3,4]) (by kernel_rfl) (by simp) ?_;refine AllReadyH.cons rfl (λK hK=>?_) ?_
   ·go_simp;refine(lQ r _).mono ?_;rintro e wz⟨q,rfl,hq,hbz⟩;have sz:=RS.below (F:=F1) ‹_› hbz;clear hbz;have cz:=sz.b3.cell;try go_wp2_with fail
    clear hHeld;refine hK.out _ _ (by first|exact RS.four ‹_›|exact RT.four ‹_›) (λhHeld=>?_);clear hK K;try simp only[ly]
    refine rd 4 (λK hK=>?_);go_simp;skip
    try go_wp2_with fail
    clear hHeld;refine hK.out _ _ (by first|exact RS.four ‹_›|exact RT.four ‹_›) (λhHeld=>?_);clear hK K;try simp only[ly]
    refine rd 5 (λK hK=>?_);go_simp;refine(IT.out _ q hq ‹_›).mono ?_;rintro e wy⟨ns3,v3,er3,rfl,A3,K3,X3,hL3,d3⟩;have sy:=RS.step (F:=F1) ‹_› K3 A3;have cy:=sy.b3.cell;have fy:=sy.b3.frozen;clear K3 A3;try go_wp2_with fail
    clear hHeld;refine hK.out _ _ (by first|exact RS.four ‹_›|exact RT.four ‹_›) (λhHeld=>?_);clear hK K;try simp only[ly]
    refine tk 6 ?_;try simp only[ly]
    refine tk 7 ?_;try simp only[ly]
    refine tk 8 ?_;try simp only[ly]
    refine rd 9 (λK hK=>?_);go_simp;have su:=RS.set (F:=F1) ‹_› v3;try go_wp2_with fail
    clear hHeld;refine hK.out _ _ (by first|exact RS.four ‹_›|exact RT.four ‹_›) (λhHeld=>?_);clear hK K;try simp only[ly]
    refine tk 10 ?_;try simp only[ly]
    refine wpAnyH_done (by kernel_rfl) ?_ _;obtain⟨y1,y2,y3,y4⟩:=su.two;have hlp:(pre++[(xi,r)]).length=pre.length+1:=by simp
    have hL4:ns3.length<=ns.length+(pre++[(xi,r)]).length*16427:=by rw[hlp];omega
    rcases d3.out with⟨rfl,F3,rfl,lt3,ev3⟩|⟨rfl,rfl,full3⟩
    ·have fin:Hid (JI b9 a M w.heap.size ns.length (.slice A len cap) w (pre++[(xi,r)]) (wy.setCell ⟨w.heap.size+1+1+1,0,none⟩ (.int .i64 (F3:Int)))):=⟨ns3,F3,su.ar,lt3,ev3,hL4,su.b0,su.b1,su.b2,su.b3,su.b4,su.low⟩;have kf:=su.kf;have kb:=su.kb;have b4:=su.b4;clear su d3 ev3 sy IT hL4 hlp
     gi_wp2
     exact⟨kf,⟨kb,λ_=>b4⟩,fin.out⟩
    ·have fin:Hid _:=su.err (L:=ns.length) (k:=(pre++[(xi,r)]).length) (by omega) (by omega);clear d3 sy IT hL4 hlp
     gi_wp2
     exact fin.out
   refine AllReadyH.cons rfl (λK hK=>?_) AllReadyH.nil;go_simp;skip
   try go_wp2_with fail
   clear hHeld;refine hK.out _ _ (by first|exact RS.four ‹_›|exact RT.four ‹_›) (λhHeld=>?_);clear hK K;try simp only[ly]
   refine rd 3 (λK hK=>?_);go_simp;refine(lQ r _).mono ?_;rintro e wz⟨q,rfl,hq,hbz⟩;have sz:=RS.below (F:=F1) ‹_› hbz;clear hbz;have cz:=sz.b3.cell;try go_wp2_with fail
   clear hHeld;refine hK.out _ _ (by first|exact RS.four ‹_›|exact RT.four ‹_›) (λhHeld=>?_);clear hK K;try simp only[ly]
   refine rd 5 (λK hK=>?_);go_simp;refine(IT.out _ q hq ‹_›).mono ?_;rintro e wy⟨ns3,v3,er3,rfl,A3,K3,X3,hL3,d3⟩;have sy:=RS.step (F:=F1) ‹_› K3 A3;have cy:=sy.b3.cell;have fy:=sy.b3.frozen;clear K3 A3;try go_wp2_with fail
   clear hHeld;refine hK.out _ _ (by first|exact RS.four ‹_›|exact RT.four ‹_›) (λhHeld=>?_);clear hK K;try simp only[ly]
   refine tk 6 ?_;try simp only[ly]
   refine tk 7 ?_;try simp only[ly]
   refine tk 8 ?_;try simp only[ly]
   refine rd 9 (λK hK=>?_);go_simp;have su:=RS.set (F:=F1) ‹_› v3;try go_wp2_with fail
   clear hHeld;refine hK.out _ _ (by first|exact RS.four ‹_›|exact RT.four ‹_›) (λhHeld=>?_);clear hK K;try simp only[ly]
   refine tk 10 ?_;try simp only[ly]
   refine wpAnyH_done (by kernel_rfl) ?_ _;obtain⟨y1,y2,y3,y4⟩:=su.two;have hlp:(pre++[(xi,r)]).length=pre.length+1:=by simp
   have hL4:ns3.length<=ns.length+(pre++[(xi,r)]).length*16427:=by rw[hlp];omega
   rcases d3.out with⟨rfl,F3,rfl,lt3,ev3⟩|⟨rfl,rfl,full3⟩
   ·have fin:Hid (JI b9 a M w.heap.size ns.length (.slice A len cap) w (pre++[(xi,r)]) (wy.setCell ⟨w.heap.size+1+1+1,0,none⟩ (.int .i64 (F3:Int)))):=⟨ns3,F3,su.ar,lt3,ev3,hL4,su.b0,su.b1,su.b2,su.b3,su.b4,su.low⟩;have kf:=su.kf;have kb:=su.kb;have b4:=su.b4;clear su d3 ev3 sy IT hL4 hlp
    gi_wp2
    exact⟨kf,⟨kb,λ_=>b4⟩,fin.out⟩
   ·have fin:Hid _:=su.err (L:=ns.length) (k:=(pre++[(xi,r)]).length) (by omega) (by omega);clear d3 sy IT hL4 hlp
    gi_wp2
    exact fin.out
  ·have fin:=s2.rt.err (L:=ns.length) (k:=(pre++[(xi,r)]).length) (by omega) (by simp;omega);clear d2
   gi_wp2
   exact fin
 case done =>
  rintro D ys W hD rfl⟨ns1,F1,A1,lF,eF,_,b0,b1,b2,b3,b4,D1⟩ hK;have eF':Hid (∀x,ev ns1 F1 x=j6 xs x):=λx=>by rw[eF x,uF]
  clear eF;have hD':D<W.heap.size:=(Array.getElem?_eq_some_iff.1 hK).1;have e1:=(b1.set (.int .i64 (F1:Int))).other (B':=w.heap.size+1+1) (by omega) (.int .i64 0);have b2':=b2.other (B':=w.heap.size+1) (by omega) (.int .i64 (F1:Int));have e2:=b2'.set (.int .i64 0);have A2:=(A1.setBox b1 (by decide) (by decide) (.int .i64 (F1:Int))).setBox b2' (by decide) (by decide) (.int .i64 0);have D2:=(D1.setCell (p:=⟨w.heap.size+1,0,none⟩) (by show b9<=w.heap.size+1;omega) (.int .i64 (F1:Int))).setCell (p:=⟨w.heap.size+1+1,0,none⟩) (by show b9<=w.heap.size+1+1;omega) (.int .i64 0);have hK':=((KeepsOthers.setCell W ⟨w.heap.size+1,0,none⟩ (.int .i64 (F1:Int))).trans (KeepsOthers.setCell _ ⟨w.heap.size+1+1,0,none⟩ (.int .i64 0))).same D _ hK rfl;have c1:=b1.cell;have f1:=b1.frozen;have c2:=b2'.cell;have f2:=b2'.frozen;have c3:=b3.cell
  gi_wp2
  refine⟨by simp,.inl ⟨_,_,rfl,run_takeDeferred hK',?_⟩⟩;obtain⟨A3,r1,r2,D3⟩:=putD (o:=.deferred none) A2 e1 e2 D2 hK' (by omega) (by omega) (by omega);exact⟨.tuple #[.int .i64 (F1:Int),.int .i64 0],by simp[results,results208,go_sem,r1,r2],ns1,A3,D3,.inl ⟨F1,rfl,lF,eF'.out⟩⟩
 case stop =>
  rintro D c pre W hD⟨k,hk,rfl⟩ ⟨rfl,hL,ns1,A1,b1,b2,D1⟩ hK;rw[came_length]at hL;have hL':40000<=ns.length+xs.length*16427:=by
   have:=Nat.mul_le_mul_right 16427 hk;omega
  gi_wp2
  refine⟨by simp,.inl ⟨_,_,rfl,run_takeDeferred hK,?_⟩⟩;obtain⟨A3,r1,r2,D3⟩:=putD (o:=.deferred none) A1 b1 b2 D1 hK (by omega) (by omega) (by omega);exact⟨.tuple #[.int .i64 0,.int .i64 6],by simp[results,results208,go_sem,r1,r2],ns1,A3,D3,.inr ⟨rfl,hL'⟩⟩
end Go.Proofs.YtppbfikimalojaaGreat
namespace Go.Proofs.YtppbfikimalojaaGreat
open Tryz
open Go.RowKit Go.Maps
theorem uJ(A:Option Addr)(n cap:Nat)(w:World):Calls prog 117 #[.slice A n cap] w λe w'=>e=.returned (.int .i64 (if 8<n then 2 else 0))/\w'=w:=by
 by_cases h:8<n
 ·have t:decide ((8:Int)<(n:Int))=true:=by simp;omega
  rw[if_pos h];go_enter func117,ntmps117;go_wp2_with fail;go_ret;exact⟨rfl,rfl⟩
 ·have t:decide ((8:Int)<(n:Int))=false:=by simp;omega
  rw[if_neg h];go_enter func117,ntmps117;go_wp2_with fail;go_ret;exact⟨rfl,rfl⟩
def BPost(E:Prop)(b9 a M:Nat)(w:World)(ns:List Nd)(xs:List Rl)(e:Ending)(w':World):Prop :=
 ∃ns',Ar b9 a M 14 40000 w' ns'/\Kp (ca b9 a M 14 40000) w w'/\Ext ns ns' /\
   ((∃f:Nat,e=.returned (.tuple #[.int .i64 (f:Int),.int .i64 0])/\f<ns'.length/\∀x,ev ns' f x=j6 xs x)\/(e=.returned (.tuple #[.int .i64 0,.int .i64 6])/\E))
theorem uK{b9 a M:Nat}{w:World}{ns:List Nd}(h:Ar b9 a M 14 40000 w ns)(A:Option Addr)(n cap:Nat)(xs:List Rl)(hR:Rules w.heap.size w (.slice A n cap) xs)(hlen:xs.length<=8) :
  Calls prog 183 #[.pointer (some ⟨a,0,none⟩),.slice A n cap] w (BPost True b9 a M w ns xs):=by
 have hn:n=xs.length:=by
  obtain⟨_,_,e,_⟩:=hR;cases e;rfl
 have CK:Hid (∀w,Calls prog 117 #[.slice A n cap] w λe w'=>e=.returned (.int .i64 0)/\w'=w):=λw=>by
  have:=uJ A n cap w;rw[if_neg (by omega)]at this;exact this
 have NW:Hid (Calls prog 30 #[.int .i64 14,.int .i64 40000] w λe w'=>∃a2 M2,e=.returned (.tuple #[.pointer (some ⟨a2,0,none⟩),.int .i64 0])/\Ar w.heap.size a2 M2 14 40000 w' [(14,0,0),(14,1,1)]/\Below w.heap.size w w'):=eT (v:=14) (m:=40000) w (by omega) (by omega) (by omega) (by omega);clear hn;go_enter func183,ntmps183;go_wp2_with (go_at_call 117;refine(CK.out _).mono ?_;rintro e w'⟨rfl,rfl⟩);refine NW.out.mono ?_;rintro e w2⟨a2,M2,rfl,A2,hb2⟩;have JO:Hid (Calls prog 208 #[.pointer (some ⟨a2,0,none⟩),.slice A n cap] w2 λe w'=>∃ns',Ar _ a2 M2 14 40000 w' ns'/\Below _ w2 w' /\
   ((∃f:Nat,e=.returned (.tuple #[.int .i64 (f:Int),.int .i64 0])/\f<ns'.length/\∀x,ev ns' f x=j6 xs x)\/(e=.returned (.tuple #[.int .i64 0,.int .i64 6])/\_))):=uI A2 A n cap xs (hR.below hb2) hlen
 clear CK NW;go_wp2_with fail;refine JO.out.mono ?_;rintro e w3⟨ns3,A3,hb3,hres⟩;have D3:=hb2.trans hb3;have H3:=h.below D3;have K3:=h.kbelow D3;clear JO hb2 hb3 A2;rcases hres with⟨f,rfl,lf,ef⟩|⟨rfl,_⟩
 ·obtain⟨_,_,_,rl⟩:=h.row;have hrow:=l9 (D3.block a h.lta);have TK:Hid (Calls prog 94 #[.pointer (some ⟨a,0,none⟩),.pointer (some ⟨a2,0,none⟩),.int .i64 (f:Int)] w3 (OpPost b9 a M 14 40000 w3 ns (2 ^ 14-1) λq=>ev ns3 f q)):=oW H3 A3 (Nat.le_refl _) h.lta h.ltM (by rw[hrow];exact rl) lf;clear hrow rl A3;go_wp2_with fail;refine TK.out.mono ?_;rintro e w4 hp;obtain⟨ns4,v4,er4,rfl,A4,K4,X4,_,d4⟩:=hp.pair;have KK:=K3.trans K4;clear hp TK H3 K3 K4 D3;have fin:Hid (BPost True b9 a M w' ns xs (.returned (.tuple #[.int .i64 v4,.int .i64 er4])) w4):=by
   rcases d4.out with⟨rfl,f4,rfl,l4,e4⟩|⟨rfl,rfl,_⟩
   ·exact⟨ns4,A4,KK,X4,.inl ⟨f4,rfl,l4,λx=>(e4 x).trans (ef x)⟩⟩
   ·exact⟨ns4,A4,KK,X4,.inr ⟨rfl,trivial⟩⟩
  clear d4 A4 KK X4 ef;go_wp2_with fail;go_ret2;exact fin.out
 ·have fin:Hid (BPost True b9 a M w' ns xs (.returned (.tuple #[.int .i64 0,.int .i64 6])) w3):=⟨ns,H3,K3,Ext.refl _,.inr ⟨rfl,trivial⟩⟩;clear H3 K3 D3 A3;go_wp2_with fail;go_ret2;exact fin.out
def Bz(W:World)(k:Nat)(c:Array Value)(t:TypeId):Prop:=W.heap[k]?=some (.cells c t (0,0))
theorem Bz.lt{W:World}{k:Nat}{c:Array Value}{t:TypeId}(h:Bz W k c t):k<W.heap.size:=(Array.getElem?_eq_some_iff.1 h).1
theorem Bz.cell{W:World}{k:Nat}{c:Array Value}{t:TypeId}(h:Bz W k c t)(j:Nat)(v:Value)(hj:c[j]?=some v):W.cell? ⟨k,j,none⟩=some v:=by
 unfold Bz at h;simp[World.cell?,h,hj]
theorem Bz.free{W:World}{k:Nat}{c:Array Value}{t:TypeId}(h:Bz W k c t)(j:Nat):W.frozen? ⟨k,j,none⟩=false:=by unfold Bz at h;simp[World.frozen?,h]
theorem Bz.set{W:World}{k j:Nat}{c:Array Value}{t:TypeId}(h:Bz W k c t)(u:Value):Bz (W.setCell ⟨k,j,none⟩ u) k (c.setIfInBounds j u) t:=by
 unfold Bz at *;simp[World.setCell,Array.getElem?_modify,h]
theorem Bz.new(w:World)(c:Array Value)(t:TypeId)(k:Nat)(h:k=w.heap.size):Bz (w.alloc (.cells c t)) k c t:=by subst h;exact Go.heap_alloc_new w _
structure Bn(b9 q a M:Nat)(w0 w:World)(ns:List Nd)(er:Int):Prop where
 ar:Ar b9 a M 14 40000 w ns
 blk:Bz w q #[.pointer (some ⟨a,0,none⟩),.int .i64 er] 166
 lo:b9<=q
 er6:er=0\/er=6
 bel:Below b9 w0 w
def Fn(ns:List Nd)(er:Int)(f:Nat)(φ:Env->Bool):Prop:=f<ns.length/\(er=0->∀x,ev ns f x=φ x)
def ag(b9 a M:Nat)(w:World)(ns:List Nd)(g:Nat)(φ:Env->Bool)(e:Ending)(w':World):Prop :=
 ∃(ns':List Nd) (v er:Int),e=.returned (.tuple #[.int .i64 v,.int .i64 er])/\Ar b9 a M 14 40000 w' ns'/\Kp (ca b9 a M 14 40000) w w'/\Ext ns ns'/\ns'.length<=ns.length+g /\
   Hid ((er=0/\∃f:Nat,v=(f:Int)/\f<ns'.length/\∀x,ev ns' f x=φ x)\/(er=6/\v=0/\40000<=ns.length+g))
theorem OpPost.o{b9 a M:Nat}{w w':World}{ns:List Nd}{g:Nat}{φ:Env->Bool}{e:Ending}(h:OpPost b9 a M 14 40000 w ns g φ e w'):ag b9 a M w ns g φ e w':=by
 obtain⟨ns',r1,r2,r3,r4,⟨f,e1,e2⟩|⟨e1,e2⟩⟩:=h
 ·exact⟨ns',f,0,e1,r1,r2,r3,r4,Or.inl ⟨rfl,f,rfl,e2⟩⟩
 ·exact⟨ns',0,6,e1,r1,r2,r3,r4,Or.inr ⟨rfl,rfl,by omega⟩⟩
theorem MkPost.o{b9 a M:Nat}{w w':World}{ns:List Nd}{g i:Nat}{φ:Env->Bool}{e:Ending}(h:MkPost b9 a M 14 40000 w ns g i φ e w'):ag b9 a M w ns g φ e w':=by
 obtain⟨ns',r1,r2,r3,r4,⟨f,e1,e2,e3,e4⟩|⟨e1,e2⟩⟩:=h
 ·exact⟨ns',f,0,e1,r1,r2,r3,r4,Or.inl ⟨rfl,f,rfl,e2,e4⟩⟩
 ·exact⟨ns',0,6,e1,r1,r2,r3,r4,Or.inr ⟨rfl,rfl,by omega⟩⟩
theorem BPost.o{b9 a M:Nat}{w w':World}{ns:List Nd}{xs:List Rl}{e:Ending}(h:BPost True b9 a M w ns xs e w'):ag b9 a M w ns 40000 (j6 xs) e w':=by
 obtain⟨ns',r1,r2,r3,⟨f,e1,e2⟩|⟨e1,e2⟩⟩:=h
 ·have:=r1.le;exact⟨ns',f,0,e1,r1,r2,r3,by omega,Or.inl ⟨rfl,f,rfl,e2⟩⟩
 ·have:=r1.le;exact⟨ns',0,6,e1,r1,r2,r3,by omega,Or.inr ⟨rfl,rfl,by omega⟩⟩
def okT(t:TypeId):Prop:=(t≠82/\t≠85)/\t≠143/\t≠166
instance (t:TypeId):Decidable (okT t):=by unfold okT;infer_instance
def TF(w w':World):Prop:=∀i c t,Bz w i c t->okT t->Bz w' i c t
theorem TF.refl(w:World):TF w w:=λ_ _ _ h _=>h
theorem TF.trans{w w1 w2:World}(h:TF w w1)(k:TF w1 w2):TF w w2:=λi c t hb ht=>k i c t (h i c t hb ht) ht
theorem TF.below{w w':World}(h:Below w.heap.size w w'):TF w w':=λi _ _ hb _=>(h.block i hb.lt).trans hb
def BOut(b9 q a M:Nat)(w0 w:World)(ns:List Nd)(er:Int)(g:Nat)(φ:Env->Bool)(e:Ending)(w':World):Prop :=
 ∃(f:Nat) (ns':List Nd) (er':Int),e=.returned (.int .i64 (f:Int))/\(Bn b9 q a M w0 w' ns' er'/\TF w w')/\Ext ns ns'/\(er'=0->er=0)/\Fn ns' er' f φ/\Hid (er=0->ns'.length<=ns.length+g/\(er'≠0->40000<=ns.length+g))
section
variable {b9 q a M:Nat}{w0 w w1:World}{ns ns':List Nd}{er er':Int}
theorem Fn.step{f:Nat}{φ:Env->Bool}(h:Fn ns er f φ)(A:Wf 14 ns)(A':Wf 14 ns')(X:Ext ns ns')(he:er'=0->er=0):Fn ns' er' f φ:=by
 have:=X.len;exact⟨by have:=h.1;omega,λe x=>by rw[X.ev A A' f h.1];exact h.2 (he e) x⟩
theorem Bn.keep(h:Bn b9 q a M w0 w ns er)(k:Kp (ca b9 a M 14 40000) w w1):Bz w1 q #[.pointer (some ⟨a,0,none⟩),.int .i64 er] 166:=((h.ar.outBox h.blk (by decide) (by decide)).kp k).blk
theorem Ar.setQ{er2:Value}{c:Array Value}(A:Ar b9 a M 14 40000 w ns)(hq:Bz w q c 166):Ar b9 a M 14 40000 (w.setCell ⟨q,1,none⟩ er2) ns:=by
 have L:=(A.outBox hq (by decide) (by decide)).out;refine A.same (Below.heap_setCell w _ _ _ (λe=>L.not (Or.inl e.symm))) (Below.heap_setCell w _ _ _ (λe=>L.not (Or.inr (Or.inr (Or.inl e.symm))))) (Below.heap_setCell w _ _ _ (λe=>L.ne e.symm))
theorem bg(hq:Bz w q #[.pointer (some ⟨a,0,none⟩),.int .i64 er] 166)(v e2:Int) :
  Calls prog 137 #[.pointer (some ⟨q,0,none⟩),.int .i64 v,.int .i64 e2] w λe w'=>e=.returned (.int .i64 v)/\w'=if er=0 then w.setCell ⟨q,1,none⟩ (.int .i64 e2)else w:=by
 have c1:=hq.cell 1 _ rfl;have f1:=hq.free 1;by_cases h:er=0
 ·subst h;rw[if_pos rfl];go_enter func137,ntmps137;go_wp2_with fail;go_ret;exact⟨rfl,rfl⟩
 ·have hb:(er == 0)=false:=by simpa using h
  rw[if_neg h];go_enter func137,ntmps137;go_wp2_with fail;go_ret;exact⟨rfl,rfl⟩
theorem Bn.fin{g:Nat}{φ:Env->Bool}{v e2:Int}{w2:World}(h:Bn b9 q a M w0 w ns er)(A1:Ar b9 a M 14 40000 w1 ns')(k:Kp (ca b9 a M 14 40000) w w1)(X:Ext ns ns')(l:ns'.length<=ns.length+g)
  (hv:Hid ((e2=0/\∃f:Nat,v=(f:Int)/\f<ns'.length/\∀x,ev ns' f x=φ x)\/(e2=6/\v=0/\40000<=ns.length+g))) (hw:w2=if er=0 then w1.setCell ⟨q,1,none⟩ (.int .i64 e2)else w1):BOut b9 q a M w0 w ns er g φ (.returned (.int .i64 v)) w2:=by
 have hq:=h.keep k;have bl:=h.bel.trans (h.ar.kp_below k);have hlen:=A1.wf.len;have tf1:TF w w1:=λi c t hb ht=>((h.ar.outBox hb ht.1 ht.2.1).kp k).blk;have hvv:∃f:Nat,v=(f:Int)/\f<ns'.length/\(e2=0->∀x,ev ns' f x=φ x)/\(e2=0\/e2=6)/\(e2≠0->40000<=ns.length+g):=by
  rcases hv.out with⟨rfl,f,rfl,h1,h2⟩|⟨rfl,rfl,h3⟩
  ·exact⟨f,rfl,h1,λ_=>h2,.inl rfl,λh=>absurd rfl h⟩
  ·exact⟨0,rfl,by omega,λh=>by omega,.inr rfl,λ_=>h3⟩
 obtain⟨f,rfl,h1,h2,h3,h4⟩:=hvv;by_cases he:er=0
 ·subst he;rw[if_pos rfl]at hw;subst hw;exact⟨f,ns',e2,rfl,⟨⟨A1.setQ hq,hq.set (j:=1) _,h.lo,h3,bl.setCell (p:=⟨q,1,none⟩) h.lo _⟩,λi c t hb ht=>(Below.heap_setCell w1 _ _ _ (λe=>by
   have e':i=q:=e;have hb1:=tf1 i c t hb ht;unfold Bz at hb1 hq;rw[e',hq]at hb1;simp only[Option.some.injEq,Obj.cells.injEq]at hb1;exact ht.2.2 hb1.2.1.symm)).trans (tf1 i c t hb ht)⟩,X,λ_=>rfl,⟨h1,h2⟩,λ_=>⟨l,h4⟩⟩
 ·rw[if_neg he]at hw;subst hw;exact⟨f,ns',er,rfl,⟨⟨A1,hq,h.lo,h.er6,bl⟩,tf1⟩,X,id,⟨h1,λe=>absurd e he⟩,λe=>absurd e he⟩
theorem uL(w:World):Calls prog 84 #[] w λe w'=>∃q a M,e=.returned (.tuple #[.pointer (some ⟨q,0,none⟩),.int .i64 0])/\Bn w.heap.size q a M w w' [(14,0,0),(14,1,1)] 0:=by
 have NW:Hid (Calls prog 30 #[.int .i64 14,.int .i64 40000] w λe w'=>∃a M,e=.returned (.tuple #[.pointer (some ⟨a,0,none⟩),.int .i64 0])/\Ar w.heap.size a M 14 40000 w' [(14,0,0),(14,1,1)]/\Below w.heap.size w w'):=eT (v:=14) (m:=40000) w (by omega) (by omega) (by omega) (by omega);go_enter func84,ntmps84;go_wp2_with fail;refine NW.out.mono ?_;rintro e w1⟨a,M,rfl,A1,hb1⟩;have hfin:Bn w.heap.size w1.heap.size a M w (w1.alloc (.cells #[.pointer (some ⟨a,0,none⟩),.int .i64 0] 166)) [(14,0,0),(14,1,1)] 0:=⟨A1.alloc _,Bz.new w1 _ _ _ rfl,hb1.size,.inl rfl,hb1.alloc hb1.size _⟩;clear NW A1 hb1;go_wp2_with fail;go_ret2;exact⟨_,_,_,rfl,hfin⟩
end
section
variable {b9 q a M:Nat}{w0 w:World}{ns:List Nd}{er:Int}
theorem BOut.bad{g g':Nat}{φ φ':Env->Bool}{e:Ending}{w':World}(he:er≠0)(h:BOut b9 q a M w0 w ns er g φ e w'):BOut b9 q a M w0 w ns er g' φ' e w':=by
 obtain⟨f,ns',er',h1,h2,h3,h4,h5,_⟩:=h;exact⟨f,ns',er',h1,h2,h3,h4,⟨h5.1,λe=>absurd (h4 e) he⟩,λe=>absurd e he⟩
theorem BOut.of{g:Nat}{φ ψ:Env->Bool}{e:Ending}{w':World}(h:BOut b9 q a M w0 w ns er g φ e w')(hq:er=0->∀x,φ x=ψ x):BOut b9 q a M w0 w ns er g ψ e w':=by
 obtain⟨f,ns',er',h1,h2,h3,h4,h5,h6⟩:=h;exact⟨f,ns',er',h1,h2,h3,h4,⟨h5.1,λe x=>(h5.2 e x).trans (hq (h4 e) x)⟩,h6⟩
theorem BOut.seq{w1:World}{ns1:List Nd}{er1:Int}{g1 g2:Nat}{φ:Env->Bool}{e:Ending}{w':World}(X:Ext ns ns1)(he:er1=0->er=0)(hg:Hid (er=0->ns1.length<=ns.length+g1/\(er1≠0->40000<=ns.length+g1)))(tf:TF w w1)(h:BOut b9 q a M w0 w1 ns1 er1 g2 φ e w'):BOut b9 q a M w0 w ns er (g1+g2) φ e w':=by
 obtain⟨f,ns',er',h1,h2,h3,h4,h5,h6⟩:=h;refine⟨f,ns',er',h1,⟨h2.1,tf.trans h2.2⟩,X.trans h3,λe=>he (h4 e),h5,λe0=>?_⟩;have a1:=hg.out e0;have a2:=h2.1.ar.le;by_cases e1:er1=0
 ·have a3:=h6.out e1;refine⟨by omega,λe2=>?_⟩;have:=a3.2 e2;omega
 ·have:=a1.2 e1;exact⟨by omega,λ_=>by omega⟩
theorem BOut.from{w1:World}{g:Nat}{φ:Env->Bool}{e:Ending}{w':World}(tf:TF w w1)(h:BOut b9 q a M w0 w1 ns er g φ e w'):BOut b9 q a M w0 w ns er g φ e w':=by
 obtain⟨f,ns',er',h1,h2,h3⟩:=h;exact⟨f,ns',er',h1,⟨h2.1,tf.trans h2.2⟩,h3⟩
theorem BOut.more{g g':Nat}{φ:Env->Bool}{e:Ending}{w':World}(h:BOut b9 q a M w0 w ns er g φ e w')(hg:g<=g'):BOut b9 q a M w0 w ns er g' φ e w':=by
 obtain⟨f,ns',er',h1,h2,h3,h4,h5,h6⟩:=h;refine⟨f,ns',er',h1,h2,h3,h4,h5,λe0=>?_⟩;have:=h6.out e0;exact⟨by omega,λe1=>by have:=this.2 e1;omega⟩
theorem lS(h:Bn b9 q a M w0 w ns er){f g:Nat}{g0:Nat}{χ:Env->Bool}(OP:Hid (Calls prog 138 #[.pointer (some ⟨a,0,none⟩),.int .i64 (f:Int),.int .i64 (g:Int)] w (ag b9 a M w ns g0 χ))) :
  Calls prog 85 #[.pointer (some ⟨q,0,none⟩),.int .i64 (f:Int),.int .i64 (g:Int)] w (BOut b9 q a M w0 w ns er g0 χ):=by
 have c0:=h.blk.cell 0 _ rfl;go_enter func85,ntmps85;go_wp2_with fail;refine OP.out.mono ?_;rintro e w1⟨ns1,v,e2,rfl,A1,k1,X1,l1,hv⟩;have KP:=Hq.mk (bg (h.keep k1) v e2);have FN:Hq (∀w2,w2=(if er=0 then w1.setCell ⟨q,1,none⟩ (.int .i64 e2)else w1)->BOut b9 q a M w0 w ns er g0 χ (.returned (.int .i64 v)) w2):=⟨λw2 hw=>h.fin A1 k1 X1 l1 hv hw⟩;clear c0 OP A1 k1 X1 l1 hv h;go_wp2_with fail;refine KP.out.mono ?_;rintro e w2⟨rfl,hw⟩;have F2:=FN.out w2 hw;clear hw FN KP;go_wp2_with fail;go_ret;exact F2
theorem or_w(h:Bn b9 q a M w0 w ns er){f g:Nat}{g0:Nat}{χ:Env->Bool}(OP:Hid (Calls prog 173 #[.pointer (some ⟨a,0,none⟩),.int .i64 (f:Int),.int .i64 (g:Int)] w (ag b9 a M w ns g0 χ))) :
  Calls prog 131 #[.pointer (some ⟨q,0,none⟩),.int .i64 (f:Int),.int .i64 (g:Int)] w (BOut b9 q a M w0 w ns er g0 χ):=by
 have c0:=h.blk.cell 0 _ rfl;go_enter func131,ntmps131;go_wp2_with fail;refine OP.out.mono ?_;rintro e w1⟨ns1,v,e2,rfl,A1,k1,X1,l1,hv⟩;have KP:=Hq.mk (bg (h.keep k1) v e2);have FN:Hq (∀w2,w2=(if er=0 then w1.setCell ⟨q,1,none⟩ (.int .i64 e2)else w1)->BOut b9 q a M w0 w ns er g0 χ (.returned (.int .i64 v)) w2):=⟨λw2 hw=>h.fin A1 k1 X1 l1 hv hw⟩;clear c0 OP A1 k1 X1 l1 hv h;go_wp2_with fail;refine KP.out.mono ?_;rintro e w2⟨rfl,hw⟩;have F2:=FN.out w2 hw;clear hw FN KP;go_wp2_with fail;go_ret;exact F2
theorem uM(h:Bn b9 q a M w0 w ns er){a2 f:Nat}{g0:Nat}{χ:Env->Bool}(OP:Hid (Calls prog 94 #[.pointer (some ⟨a,0,none⟩),.pointer (some ⟨a2,0,none⟩),.int .i64 (f:Int)] w (ag b9 a M w ns g0 χ))) :
  Calls prog 86 #[.pointer (some ⟨q,0,none⟩),.pointer (some ⟨a2,0,none⟩),.int .i64 (f:Int)] w (BOut b9 q a M w0 w ns er g0 χ):=by
 have c0:=h.blk.cell 0 _ rfl;go_enter func86,ntmps86;go_wp2_with fail;refine OP.out.mono ?_;rintro e w1⟨ns1,v,e2,rfl,A1,k1,X1,l1,hv⟩;have KP:=Hq.mk (bg (h.keep k1) v e2);have FN:Hq (∀w2,w2=(if er=0 then w1.setCell ⟨q,1,none⟩ (.int .i64 e2)else w1)->BOut b9 q a M w0 w ns er g0 χ (.returned (.int .i64 v)) w2):=⟨λw2 hw=>h.fin A1 k1 X1 l1 hv hw⟩;clear c0 OP A1 k1 X1 l1 hv h;go_wp2_with fail;refine KP.out.mono ?_;rintro e w2⟨rfl,hw⟩;have F2:=FN.out w2 hw;clear hw FN KP;go_wp2_with fail;go_ret;exact F2
theorem and_b(S:Nat->Bool)(h:Bn b9 q a M w0 w ns er){f g:Nat}{φ ψ:Env->Bool}(hf:Fn ns er f φ)(hg:Fn ns er g ψ)(hd:er=0->DepS S φ/\DepS S ψ) :
  Calls prog 85 #[.pointer (some ⟨q,0,none⟩),.int .i64 (f:Int),.int .i64 (g:Int)] w (BOut b9 q a M w0 w ns er (2 ^ cnS S 14 0-1) (λx=>φ x&&ψ x)):=by
 by_cases he:er=0
 ·have e1:ev ns f=φ:=funext (hf.2 he);have e2:ev ns g=ψ:=funext (hg.2 he);refine(lS h (OP:=(jm S h.ar hf.1 hg.1 (e1 ▸ (hd he).1) (e2 ▸ (hd he).2)).mono λ_ _ hp=>hp.o)).mono λ_ _ hp=>hp.of λ_ x=>?_;show(ev ns f x&&ev ns g x)=_;rw[e1,e2]
 ·exact(lS h (OP:=(jm (λ_=>true) h.ar hf.1 hg.1 (DepS.all _) (DepS.all _)).mono λ_ _ hp=>hp.o)).mono λ_ _ hp=>hp.bad he
theorem or_b(S:Nat->Bool)(h:Bn b9 q a M w0 w ns er){f g:Nat}{φ ψ:Env->Bool}(hf:Fn ns er f φ)(hg:Fn ns er g ψ)(hd:er=0->DepS S φ/\DepS S ψ) :
  Calls prog 131 #[.pointer (some ⟨q,0,none⟩),.int .i64 (f:Int),.int .i64 (g:Int)] w (BOut b9 q a M w0 w ns er (2 ^ cnS S 14 0-1) (λx=>φ x||ψ x)):=by
 by_cases he:er=0
 ·have e1:ev ns f=φ:=funext (hf.2 he);have e2:ev ns g=ψ:=funext (hg.2 he);refine(or_w h (OP:=(jn S h.ar hf.1 hg.1 (e1 ▸ (hd he).1) (e2 ▸ (hd he).2)).mono λ_ _ hp=>hp.o)).mono λ_ _ hp=>hp.of λ_ x=>?_;show(ev ns f x||ev ns g x)=_;rw[e1,e2]
 ·exact(or_w h (OP:=(jn (λ_=>true) h.ar hf.1 hg.1 (DepS.all _) (DepS.all _)).mono λ_ _ hp=>hp.o)).mono λ_ _ hp=>hp.bad he
theorem uN(S:Nat->Bool)(h:Bn b9 q a M w0 w ns er){base2 a2 M2 most2 f:Nat}{ns2:List Nd}(h2:Ar base2 a2 M2 14 most2 w ns2)(ap:∀i,i=a2\/i=M2\/i=rowOf w a2->i≠a/\i≠M/\i≠rowOf w a)(hf:f<ns2.length)(hd:DepS S (ev ns2 f)) :
  Calls prog 86 #[.pointer (some ⟨q,0,none⟩),.pointer (some ⟨a2,0,none⟩),.int .i64 (f:Int)] w (BOut b9 q a M w0 w ns er (2 ^ cnS S 14 0-1) (ev ns2 f)) :=
 uM h (OP:=(eP S h.ar h2 (Nat.le_refl _) ap hf ⟨hd,O9 (Nat.zero_le _)⟩ (Nat.le_trans (bK 0) (by omega))).mono λ_ _ hp=>hp.o)
theorem uO(S:Nat->Bool)(h:Bn b9 q a M w0 w ns er){base2 a2 M2 most2 f:Nat}{ns2:List Nd}(h2:Ar base2 a2 M2 14 most2 w ns2)(p1:a2<b9)(p2:M2<b9)(p3:rowOf w a2<b9)(hf:f<ns2.length)(hd:DepS S (ev ns2 f)) :
  Calls prog 86 #[.pointer (some ⟨q,0,none⟩),.pointer (some ⟨a2,0,none⟩),.int .i64 (f:Int)] w (BOut b9 q a M w0 w ns er (2 ^ cnS S 14 0-1) (ev ns2 f)) :=
 uN S h h2 (λi hi=>by
  have l1:=h.ar.lowA;have l2:=h.ar.lowM;have l3:=h.ar.row.choose_spec.2.1;rcases hi with rfl|rfl|rfl <;> exact⟨by omega,by omega,by omega⟩) hf hd
theorem Bn.alloc(h:Bn b9 q a M w0 w ns er)(o:Obj):Bn b9 q a M w0 (w.alloc o) ns er:=by
 have hs:b9<=w.heap.size:=Nat.le_trans h.lo (Nat.le_of_lt h.blk.lt);exact⟨h.ar.alloc o,(Below.heap_alloc w o _ h.blk.lt).trans h.blk,h.lo,h.er6,h.bel.alloc hs o⟩
theorem Bn.drew(h:Bn b9 q a M w0 w ns er):Bn b9 q a M w0 w.drew ns er:=⟨h.ar.drewT,h.blk,h.lo,h.er6,h.bel.drew⟩
theorem Bn.size(h:Bn b9 q a M w0 w ns er):b9<=w.heap.size:=Nat.le_trans h.lo (Nat.le_of_lt h.blk.lt)
theorem dU{w1 w2:World}{e2:Int}(hw:w2=if er=0 then w1.setCell ⟨q,1,none⟩ (.int .i64 e2)else w1){i j:Nat}(hi:i≠q\/j=0):w2.cell? ⟨i,j,none⟩=w1.cell? ⟨i,j,none⟩:=by
 by_cases he:er=0
 ·rw[if_pos he]at hw;subst hw;rcases hi with hi|rfl
  ·exact World.cell?_setCell_far w1 ⟨q,1,none⟩ ⟨i,j,none⟩ _ (Ne.symm hi)
  ·by_cases hq:i=q
   ·subst hq;simp only[World.cell?,World.setCell,Array.getElem?_modify];simp only[if_true];cases h:w1.heap[i]? with
    | none=>rfl
    | some o=>cases o <;> simp
   ·exact World.cell?_setCell_far w1 ⟨q,1,none⟩ ⟨i,0,none⟩ _ (Ne.symm hq)
 ·rw[if_neg he]at hw;rw[hw]
theorem bW(h:Bn b9 q a M w0 w ns er)(sa sb sc sd:Nat)(ha:sa<65536)(hb:sb<65536)(hc:sc<256)(hd:sd<256) :
  Calls prog 87 #[.pointer (some ⟨q,0,none⟩),mt sa sb sc sd] w (BOut b9 q a M w0 w ns er 44 (phi sa sb sc sd)):=by
 have h1:=(h.alloc (.cells #[.int .u16 (sa:Int),.int .u16 (sb:Int),.int .u8 (sc:Int),.int .u8 (sd:Int)] 32)).drew;have BM:Hq (Calls prog 68 #[.pointer (some ⟨a,0,none⟩),mt sa sb sc sd] _ (ag b9 a M _ ns 44 (phi sa sb sc sd))):=⟨(eS h1.ar (Nat.le_refl _) sa sb sc sd ha hb hc hd).mono λ_ _ hp=>hp.o⟩;have Z:Bz (w.alloc (.cells #[.int .u16 (sa:Int),.int .u16 (sb:Int),.int .u8 (sc:Int),.int .u8 (sd:Int)] 32)).drew w.heap.size #[.int .u16 (sa:Int),.int .u16 (sb:Int),.int .u8 (sc:Int),.int .u8 (sd:Int)] 32:=Bz.new w _ _ _ rfl;have hzq:w.heap.size≠q:=λe=>by have:=h.blk.lt;omega
 have c0:=h1.blk.cell 0 _ rfl;have z0:=Z.cell 0 _ rfl;have z1:=Z.cell 1 _ rfl;have z2:=Z.cell 2 _ rfl;have z3:=Z.cell 3 _ rfl;have FN:Hq (∀w1 ns1 (v e2:Int),Ar b9 a M 14 40000 w1 ns1->Kp (ca b9 a M 14 40000) _ w1->Ext ns ns1->ns1.length<=ns.length+44->Hid ((e2=0/\∃f:Nat,v=(f:Int)/\f<ns1.length/\∀x,ev ns1 f x=phi sa sb sc sd x)\/(e2=6/\v=0/\40000<=ns.length+44))->(Bz w1 q #[.pointer (some ⟨a,0,none⟩),.int .i64 er] 166/\Bz w1 w.heap.size #[.int .u16 (sa:Int),.int .u16 (sb:Int),.int .u8 (sc:Int),.int .u8 (sd:Int)] 32)/\∀w2,w2=(if er=0 then w1.setCell ⟨q,1,none⟩ (.int .i64 e2)else w1)->BOut b9 q a M w0 w ns er 44 (phi sa sb sc sd) (.returned (.int .i64 v)) w2):=⟨λw1 ns1 v e2 A1 k1 X1 l1 hv=>⟨⟨h1.keep k1,((h1.ar.outBox Z (by decide) (by decide)).kp k1).blk⟩,λw2 hw=>BOut.from ((TF.below ((Below.refl _ w).alloc (Nat.le_refl _) _)).trans (TF.below (Below.refl _ _).drew)) (h1.fin A1 k1 X1 l1 hv hw)⟩⟩;unfold mt at BM ⊢;clear h h1 Z;go_enter func87,ntmps87;go_wp2_with fail;go_region_held3 (λw'=>w'.cell? ⟨q,0,none⟩=some (.pointer (some ⟨a,0,none⟩))/\w'.cell? ⟨w.heap.size,0,none⟩=some (.int .u16 (sa:Int))/\w'.cell? ⟨w.heap.size,1,none⟩=some (.int .u16 (sb:Int))/\w'.cell? ⟨w.heap.size,2,none⟩=some (.int .u8 (sc:Int))/\w'.cell? ⟨w.heap.size,3,none⟩=some (.int .u8 (sd:Int))) (go_keep)
  ((first
    | (go_at_call 68;refine BM.out.mono ?_;rintro e w1⟨ns1,v,e2,rfl,A1,k1,X1,l1,hv⟩;obtain⟨⟨Q1,Z1⟩,F1⟩:=FN.out w1 ns1 v e2 A1 k1 X1 l1 hv;have c0':=Q1.cell 0 _ rfl;have y0:=Z1.cell 0 _ rfl;have y1:=Z1.cell 1 _ rfl;have y2:=Z1.cell 2 _ rfl;have y3:=Z1.cell 3 _ rfl;have F1h:=Hq.mk F1;clear F1 A1 k1 X1 l1 hv Z1)
    | (go_at_call 137;refine(bg Q1 v e2).mono ?_;rintro e w2⟨rfl,hw⟩;have F2:=F1h.out w2 hw;have d0:=(dU hw (i:=q) (j:=0) (.inr rfl)).trans c0';have x0:=(dU hw (i:=w.heap.size) (j:=0) (.inl hzq)).trans y0;have x1:=(dU hw (i:=w.heap.size) (j:=1) (.inl hzq)).trans y1;have x2:=(dU hw (i:=w.heap.size) (j:=2) (.inl hzq)).trans y2;have x3:=(dU hw (i:=w.heap.size) (j:=3) (.inl hzq)).trans y3;clear hw)))
 all_goals
  go_wp2_with fail;go_ret;exact F2
theorem uP(h:Bn b9 q a M w0 w ns er){A:Option Addr}{n cap:Nat}{g0:Nat}{χ:Env->Bool}(OP:Hid (Calls prog 183 #[.pointer (some ⟨a,0,none⟩),.slice A n cap] w (ag b9 a M w ns g0 χ))) :
  Calls prog 198 #[.pointer (some ⟨q,0,none⟩),.slice A n cap] w (BOut b9 q a M w0 w ns er g0 χ):=by
 have c0:=h.blk.cell 0 _ rfl;go_enter func198,ntmps198;go_wp2_with fail;refine OP.out.mono ?_;rintro e w1⟨ns1,v,e2,rfl,A1,k1,X1,l1,hv⟩;have KP:=Hq.mk (bg (h.keep k1) v e2);have FN:Hq (∀w2,w2=(if er=0 then w1.setCell ⟨q,1,none⟩ (.int .i64 e2)else w1)->BOut b9 q a M w0 w ns er g0 χ (.returned (.int .i64 v)) w2):=⟨λw2 hw=>h.fin A1 k1 X1 l1 hv hw⟩;clear c0 OP A1 k1 X1 l1 hv h;go_wp2_with fail;refine KP.out.mono ?_;rintro e w2⟨rfl,hw⟩;have F2:=FN.out w2 hw;clear hw FN KP;go_wp2_with fail;go_ret;exact F2
theorem uQ(h:Bn b9 q a M w0 w ns er)(A:Option Addr)(n cap:Nat)(xs:List Rl)(hR:Rules w.heap.size w (.slice A n cap) xs)(hlen:xs.length<=8) :
  Calls prog 198 #[.pointer (some ⟨q,0,none⟩),.slice A n cap] w (BOut b9 q a M w0 w ns er 40000 (j6 xs)) :=
 uP h (OP:=(uK h.ar A n cap xs hR hlen).mono λ_ _ hp=>hp.o)
end
def exF(φ:Env->Bool)(i j:Nat):Nat->Env->Bool
 | 0=>φ
 | k+1=>λx=>exF φ i j k (swE x (i+k) (j+k))
def anF(φ:Env->Bool)(i:Nat):Nat->Env->Bool
 | 0=>φ
 | k+1=>λx=>anF φ i k (setE x (i+k) false)||anF φ i k (setE x (i+k) true)
section
variable {b9 q a M:Nat}{w0 w:World}{ns:List Nd}{er:Int}
theorem sw_o(S:Nat->Bool)(h:Bn b9 q a M w0 w ns er){f i j:Nat}{φ:Env->Bool}(hf:Fn ns er f φ)(hi:i<14)(hj:j<14)(hd:er=0->DepS S φ) :
  ∃(g':Nat) (χ:Env->Bool),(er=0->g'=2 ^ cnS (wth S i j) 14 0-1/\∀x,χ x=φ (swE x i j))/\Calls prog 223 #[.pointer (some ⟨a,0,none⟩),.int .i64 (f:Int),.int .i64 (i:Int),.int .i64 (j:Int)] w (ag b9 a M w ns g' χ):=by
 by_cases he:er=0
 ·have e1:ev ns f=φ:=funext (hf.2 he);exact⟨_,_,λ_=>⟨rfl,λx=>by rw[e1]⟩,(jo S h.ar hf.1 hi hj (e1 ▸ hd he)).mono λ_ _ hp=>hp.o⟩
 ·exact⟨_,_,λe=>absurd e he,(jo (λ_=>true) h.ar hf.1 hi hj (DepS.all _)).mono λ_ _ hp=>hp.o⟩
theorem ex_o(h:Bn b9 q a M w0 w ns er){f i:Nat}{φ:Env->Bool}(hf:Fn ns er f φ)(hi:i<14) :
  ∃ χ:Env->Bool,(er=0->∀x,χ x=(φ (setE x i false)||φ (setE x i true)))/\Calls prog 224 #[.pointer (some ⟨a,0,none⟩),.int .i64 (f:Int),.int .i64 (i:Int)] w (ag b9 a M w ns (2 ^ 14-1) χ):=by
 refine⟨_,λhe x=>?_,(oN h.ar hf.1 hi).mono λ_ _ hp=>hp.o⟩;show(ev ns f (setE x i false)||ev ns f (setE x i true))=_;rw[hf.2 he,hf.2 he]
theorem BOut.fit{g g':Nat}{φ φ':Env->Bool}{e:Ending}{w':World}(h:BOut b9 q a M w0 w ns er g φ e w')(hg:er=0->g<=g'/\∀x,φ x=φ' x):BOut b9 q a M w0 w ns er g' φ' e w':=by
 by_cases he:er=0
 ·exact(h.more (hg he).1).of λe x=>(hg e).2 x
 ·exact h.bad he
theorem lT(SS:Nat->Nat->Bool)(G:Nat)(h:Bn b9 q a M w0 w ns er){f first second bits:Nat}{φ:Env->Bool}(hf:Fn ns er f φ)(h1:first+bits<=14)(h2:second+bits<=14)
  (hd:er=0->∀k,k<bits->DepS (SS k) (exF φ first second k)/\2 ^ cnS (wth (SS k) (first+k) (second+k)) 14 0-1<=G) :
  Calls prog 216 #[.pointer (some ⟨q,0,none⟩),.int .i64 (f:Int),.int .i64 (first:Int),.int .i64 (second:Int),.int .i64 (bits:Int)] w (BOut b9 q a M w0 w ns er (bits*G) (exF φ first second bits)):=by
 have HD:Hq (er=0->∀k,k<bits->DepS (SS k) (exF φ first second k)/\2 ^ cnS (wth (SS k) (first+k) (second+k)) 14 0-1<=G):=⟨hd⟩;have HH:=Hq.mk h;have HF:=Hq.mk hf;clear hd h hf;go_enter func216,ntmps216;go_wp2_with fail;go_loopw[1,13] (λv i wr=>∃(k f':Nat) (ns':List Nd) (er':Int),i=.int .i64 (k:Int)/\k<=bits/\v=.int .i64 (f':Int)/\Hq ((Bn b9 q a M w0 wr ns' er'/\TF w wr)/\Ext ns ns'/\(er'=0->er=0)/\Fn ns' er' f' (exF φ first second k)/\Hid (er=0->ns'.length<=ns.length+k*G/\(er'≠0->40000<=ns.length+k*G)))) (λ_ i _=>bits-(intOf i).toNat)
 case atStart=>exact⟨0,f,ns,er,rfl,Nat.zero_le _,rfl,⟨⟨HH.out,TF.refl _⟩,Ext.refl _,id,HF.out,λe=>⟨by omega,λh=>absurd e h⟩⟩⟩
 case round =>
  obtain⟨k,f',ns',er',rfl,hk,rfl,HS⟩:=hrel;by_cases hlt:k<bits
  ·obtain⟨⟨h',tf⟩,X,he,hf',hg⟩:=HS.out;obtain⟨g',χ,hx,SW⟩:=sw_o (SS k) h' hf' (i:=first+k) (j:=second+k) (by omega) (by omega) (λe=>((HD.out (he e)) k hlt).1);have e1:((first+k:Nat):Int)=(first:Int)+(k:Int):=by omega
   have e2:((second+k:Nat):Int)=(second:Int)+(k:Int):=by omega
   rw[e1,e2]at SW;have SWh:=Hq.mk SW;clear e1 e2;have c0:=h'.blk.cell 0 _ rfl;have FN:Hq (∀w1 ns1 (v e2:Int),Ar b9 a M 14 40000 w1 ns1->Kp (ca b9 a M 14 40000) wr w1->Ext ns' ns1->ns1.length<=ns'.length+g'->Hid ((e2=0/\∃f:Nat,v=(f:Int)/\f<ns1.length/\∀x,ev ns1 f x=χ x)\/(e2=6/\v=0/\40000<=ns'.length+g'))->Bz w1 q #[.pointer (some ⟨a,0,none⟩),.int .i64 er'] 166/\∀w2,w2=(if er'=0 then w1.setCell ⟨q,1,none⟩ (.int .i64 e2)else w1)->BOut b9 q a M w0 w ns er (k*G+G) (exF φ first second (k+1)) (.returned (.int .i64 v)) w2):=⟨λw1 ns1 v e2 A1 k1 X1 l1 hv=>⟨h'.keep k1,λw2 hw=>by
    have B:=(h'.fin A1 k1 X1 l1 hv hw).fit (g':=G) (φ':=exF φ first second (k+1)) (λe0=>by
     obtain⟨q1,q2⟩:=hx e0;refine⟨by rw[q1];exact((HD.out (he e0)) k hlt).2,λx=>?_⟩;rw[q2];rfl)
    exact BOut.seq X he hg tf B⟩⟩
   have k2:(k:Int)<(bits:Int):=by omega
   clear SW hx hf' hg h' X he tf;go_wp2_with fail;refine SWh.out.mono ?_;rintro e w1⟨ns1,v,e2,rfl,A1,k1,X1,l1,hv⟩;obtain⟨Q1,F1⟩:=FN.out w1 ns1 v e2 A1 k1 X1 l1 hv;have KP:=Hq.mk (bg Q1 v e2);have F1h:=Hq.mk F1;clear F1 A1 k1 X1 l1 hv Q1 FN SWh c0;go_wp2_with fail;refine KP.out.mono ?_;rintro e w2⟨rfl,hw⟩;obtain⟨f2,ns2,er2,hv2,b1,b2,b3,b4,b5⟩:=F1h.out w2 hw;have hvv:v=(f2:Int):=by simpa using hv2
   subst hvv;have b5':Hid (er=0->ns2.length<=ns.length+(k+1)*G/\(er2≠0->40000<=ns.length+(k+1)*G)):=by
    rw[Nat.succ_mul];exact b5
   have HS2:=Hq.mk (And.intro b1 (And.intro b2 (And.intro b3 (And.intro b4 b5'))));clear hw F1h KP hv2 b1 b2 b3 b4 b5 b5' HS;go_wp2_with fail;go_roundw
   case rel=>exact⟨k+1,f2,ns2,er2,by go_num,by omega,rfl,HS2⟩
   case measure=>simp[intOf];omega
  ·obtain rfl:k=bits:=by omega
   have F:BOut b9 q a M w0 w ns er (k*G) (exF φ first second k) (.returned (.int .i64 (f':Int))) wr:=by
    obtain⟨h',X,he,hf',hg⟩:=HS.out;exact⟨f',ns',er',rfl,h',X,he,hf',hg⟩
   clear HS HH HF HD;go_wp2_with fail;go_ret;exact F
theorem fS(h:Bn b9 q a M w0 w ns er){f first bits:Nat}{φ:Env->Bool}(hf:Fn ns er f φ)(h1:first+bits<=14) :
  Calls prog 217 #[.pointer (some ⟨q,0,none⟩),.int .i64 (f:Int),.int .i64 (first:Int),.int .i64 (bits:Int)] w (BOut b9 q a M w0 w ns er (bits*16383) (anF φ first bits)):=by
 have HH:=Hq.mk h;have HF:=Hq.mk hf;clear h hf;go_enter func217,ntmps217;go_wp2_with fail;go_loopw[1,11] (λv i wr=>∃(k f':Nat) (ns':List Nd) (er':Int),i=.int .i64 (k:Int)/\k<=bits/\v=.int .i64 (f':Int)/\Hq ((Bn b9 q a M w0 wr ns' er'/\TF w wr)/\Ext ns ns'/\(er'=0->er=0)/\Fn ns' er' f' (anF φ first k)/\Hid (er=0->ns'.length<=ns.length+k*16383/\(er'≠0->40000<=ns.length+k*16383)))) (λ_ i _=>bits-(intOf i).toNat)
 case atStart=>exact⟨0,f,ns,er,rfl,Nat.zero_le _,rfl,⟨⟨HH.out,TF.refl _⟩,Ext.refl _,id,HF.out,λe=>⟨by omega,λh=>absurd e h⟩⟩⟩
 case round =>
  obtain⟨k,f',ns',er',rfl,hk,rfl,HS⟩:=hrel;by_cases hlt:k<bits
  ·obtain⟨⟨h',tf⟩,X,he,hf',hg⟩:=HS.out;obtain⟨χ,hx,SW⟩:=ex_o h' hf' (i:=first+k) (by omega);have e1:((first+k:Nat):Int)=(first:Int)+(k:Int):=by omega
   rw[e1]at SW;have SWh:=Hq.mk SW;clear e1;have c0:=h'.blk.cell 0 _ rfl;have FN:Hq (∀w1 ns1 (v e2:Int),Ar b9 a M 14 40000 w1 ns1->Kp (ca b9 a M 14 40000) wr w1->Ext ns' ns1->ns1.length<=ns'.length+(2 ^ 14-1)->Hid ((e2=0/\∃f:Nat,v=(f:Int)/\f<ns1.length/\∀x,ev ns1 f x=χ x)\/(e2=6/\v=0/\40000<=ns'.length+(2 ^ 14-1)))->Bz w1 q #[.pointer (some ⟨a,0,none⟩),.int .i64 er'] 166/\∀w2,w2=(if er'=0 then w1.setCell ⟨q,1,none⟩ (.int .i64 e2)else w1)->BOut b9 q a M w0 w ns er (k*16383+16383) (anF φ first (k+1)) (.returned (.int .i64 v)) w2):=⟨λw1 ns1 v e2 A1 k1 X1 l1 hv=>⟨h'.keep k1,λw2 hw=>by
    have B:=(h'.fin A1 k1 X1 l1 hv hw).fit (g':=16383) (φ':=anF φ first (k+1)) (λe0=>⟨by omega,λx=>by rw[hx e0 x];rfl⟩);exact BOut.seq X he hg tf B⟩⟩
   have k2:(k:Int)<(bits:Int):=by omega
   clear SW hx hf' hg h' X he tf;go_wp2_with fail;refine SWh.out.mono ?_;rintro e w1⟨ns1,v,e2,rfl,A1,k1,X1,l1,hv⟩;obtain⟨Q1,F1⟩:=FN.out w1 ns1 v e2 A1 k1 X1 l1 hv;have KP:=Hq.mk (bg Q1 v e2);have F1h:=Hq.mk F1;clear F1 A1 k1 X1 l1 hv Q1 FN SWh c0;go_wp2_with fail;refine KP.out.mono ?_;rintro e w2⟨rfl,hw⟩;obtain⟨f2,ns2,er2,hv2,b1,b2,b3,b4,b5⟩:=F1h.out w2 hw;have hvv:v=(f2:Int):=by simpa using hv2
   subst hvv;have b5':Hid (er=0->ns2.length<=ns.length+(k+1)*16383/\(er2≠0->40000<=ns.length+(k+1)*16383)):=by
    rw[Nat.succ_mul];exact b5
   have HS2:=Hq.mk (And.intro b1 (And.intro b2 (And.intro b3 (And.intro b4 b5'))));clear hw F1h KP hv2 b1 b2 b3 b4 b5 b5' HS;go_wp2_with fail;go_roundw
   case rel=>exact⟨k+1,f2,ns2,er2,by go_num,by omega,rfl,HS2⟩
   case measure=>simp[intOf];omega
  ·obtain rfl:k=bits:=by omega
   have F:BOut b9 q a M w0 w ns er (k*16383) (anF φ first k) (.returned (.int .i64 (f':Int))) wr:=by
    obtain⟨h',X,he,hf',hg⟩:=HS.out;exact⟨f',ns',er',rfl,h',X,he,hf',hg⟩
   clear HS HH HF;go_wp2_with fail;go_ret;exact F
theorem uR(h:Bn b9 q a M w0 w ns er){f:Nat}{φ:Env->Bool}(hf:Fn ns er f φ) :
  Calls prog 200 #[.pointer (some ⟨q,0,none⟩),.int .i64 (f:Int)] w (BOut b9 q a M w0 w ns er (4*16383) (anF φ 0 4)):=by
 have A:=Hq.mk (fS h hf (first:=0) (bits:=4) (by omega));clear h hf;go_enter func200,ntmps200;go_wp2_with fail;refine A.out.mono ?_;rintro e w1 B;have B2:=B;obtain⟨f1,ns1,er1,rfl,_⟩:=B2;clear A;go_wp2_with fail;go_ret;exact B
theorem uS(h:Bn b9 q a M w0 w ns er){f:Nat}{φ:Env->Bool}(hf:Fn ns er f φ) :
  Calls prog 203 #[.pointer (some ⟨q,0,none⟩),.int .i64 (f:Int)] w (BOut b9 q a M w0 w ns er (4*16383) (anF φ 4 4)):=by
 have A:=Hq.mk (fS h hf (first:=4) (bits:=4) (by omega));clear h hf;go_enter func203,ntmps203;go_wp2_with fail;refine A.out.mono ?_;rintro e w1 B;have B2:=B;obtain⟨f1,ns1,er1,rfl,_⟩:=B2;clear A;go_wp2_with fail;go_ret;exact B
theorem uT(h:Bn b9 q a M w0 w ns er){f:Nat}{φ:Env->Bool}(hf:Fn ns er f φ) :
  Calls prog 201 #[.pointer (some ⟨q,0,none⟩),.int .i64 (f:Int)] w (BOut b9 q a M w0 w ns er (3*16383) (anF φ 8 3)):=by
 have A:=Hq.mk (fS h hf (first:=8) (bits:=3) (by omega));clear h hf;go_enter func201,ntmps201;go_wp2_with fail;refine A.out.mono ?_;rintro e w1 B;have B2:=B;obtain⟨f1,ns1,er1,rfl,_⟩:=B2;clear A;go_wp2_with fail;go_ret;exact B
theorem uU(h:Bn b9 q a M w0 w ns er){f:Nat}{φ:Env->Bool}(hf:Fn ns er f φ) :
  Calls prog 204 #[.pointer (some ⟨q,0,none⟩),.int .i64 (f:Int)] w (BOut b9 q a M w0 w ns er (3*16383) (anF φ 11 3)):=by
 have A:=Hq.mk (fS h hf (first:=11) (bits:=3) (by omega));clear h hf;go_enter func204,ntmps204;go_wp2_with fail;refine A.out.mono ?_;rintro e w1 B;have B2:=B;obtain⟨f1,ns1,er1,rfl,_⟩:=B2;clear A;go_wp2_with fail;go_ret;exact B
def flF(φ:Env->Bool):Env->Bool:=exF (exF φ 0 4 4) 8 11 3
theorem uV(S1 S2:Nat->Nat->Bool)(G1 G2:Nat)(h:Bn b9 q a M w0 w ns er){f:Nat}{φ:Env->Bool}(hf:Fn ns er f φ)
  (hd:er=0->(∀k,k<4->DepS (S1 k) (exF φ 0 4 k)/\2 ^ cnS (wth (S1 k) (0+k) (4+k)) 14 0-1<=G1)/\(∀k,k<3->DepS (S2 k) (exF (exF φ 0 4 4) 8 11 k)/\2 ^ cnS (wth (S2 k) (8+k) (11+k)) 14 0-1<=G2)) :
  Calls prog 199 #[.pointer (some ⟨q,0,none⟩),.int .i64 (f:Int)] w (BOut b9 q a M w0 w ns er (4*G1+3*G2) (flF φ)):=by
 have A:=Hq.mk (lT S1 G1 h hf (first:=0) (second:=4) (bits:=4) (by omega) (by omega) (λe=>(hd e).1));have HD:=Hq.mk hd;clear h hf hd;go_enter func199,ntmps199;go_wp2_with fail;refine A.out.mono ?_;rintro e w1⟨f1,ns1,er1,rfl,⟨h1,tf1⟩,X1,he1,hf1,hg1⟩;have A2:=Hq.mk (lT S2 G2 h1 hf1 (first:=8) (second:=11) (bits:=3) (by omega) (by omega) (λe=>(HD.out (he1 e)).2));have SQ:Hq (∀e w',BOut b9 q a M w0 w1 ns1 er1 (3*G2) (exF (exF φ 0 4 4) 8 11 3) e w'->BOut b9 q a M w0 w ns er (4*G1+3*G2) (flF φ) e w'):=⟨λe w' B=>BOut.seq X1 he1 hg1 tf1 B⟩;clear A h1 tf1 X1 he1 hf1 hg1 HD;go_wp2_with fail;refine A2.out.mono ?_;rintro e w2 B;have B2:=SQ.out _ _ B;obtain⟨f2,ns2,er2,rfl,_⟩:=B;clear A2 SQ;go_wp2_with fail;go_ret;exact B2
theorem uW(h:Bn b9 q a M w0 w ns er){f:Nat}{φ:Env->Bool}(hf:Fn ns er f φ) :
  Calls prog 199 #[.pointer (some ⟨q,0,none⟩),.int .i64 (f:Int)] w (BOut b9 q a M w0 w ns er (7*16383) (flF φ)):=by
 have le:∀S i j,2 ^ cnS (wth S i j) 14 0-1<=16383:=λS i j=>by
  have:=Nat.pow_le_pow_right (n:=2) (by omega) (bK (S:=wth S i j) (b8:=14) 0);omega
 exact(uV (λ_ _=>true) (λ_ _=>true) 16383 16383 h hf (λ_=>⟨λk _=>⟨DepS.all _,le _ _ _⟩,λk _=>⟨DepS.all _,le _ _ _⟩⟩)).mono λ_ _ B=>B.more (by omega)
end
end Go.Proofs.YtppbfikimalojaaGreat
namespace Go.Proofs.YtppbfikimalojaaGreat
open Tryz
open Go.RowKit
theorem all_any(w:World) :
  Calls prog 129 #[] w λe w'=>e=.returned (mt 65535 65535 255 255)/\Below w.heap.size w w':=by
 go_enter func129,ntmps129;go_wp2_with fail;exact bodyPost_ret (v:=mt 65535 65535 255 255) (by simp[results,results129,go_sem]) rfl ⟨rfl,by go_grown⟩
end Go.Proofs.YtppbfikimalojaaGreat
namespace Go.Proofs.YtppbfikimalojaaGreat
open Tryz
open Go.RowKit Go.Maps
def setL:List Int->Nat->Nat
 | [],z=>z
 | x::l,z=>setL l (z ||| 2 ^ x.toNat)
theorem uX(z n:Nat)(hz:z<65536)(hn:n<16):Go.bits .or .u16 (z:Int) ((2:Int) ^ n % 65536)=((z ||| 2 ^ n:Nat):Int):=by
 have p1:2 ^ n<2 ^ 16:=Nat.pow_lt_pow_right (by omega) hn;have e1:((2:Int) ^ n % 65536)=((2 ^ n:Nat):Int):=by
  rw[show(2:Int) ^ n=((2 ^ n:Nat):Int) by simp];generalize 2 ^ n=q at *;omega
 rw[e1];generalize 2 ^ n=m at *;have hle:z ||| m<2 ^ 16:=Nat.or_lt_two_pow hz p1
 have hmm:(BitVec.ofInt 16 (z:Int) ||| BitVec.ofInt 16 (m:Int)).toNat=z ||| m:=by
  rw[show BitVec.ofInt 16 (z:Int)=BitVec.ofNat 16 z by simp,show BitVec.ofInt 16 (m:Int)=BitVec.ofNat 16 m by simp,BitVec.toNat_or,BitVec.toNat_ofNat,BitVec.toNat_ofNat,Nat.mod_eq_of_lt (by omega),Nat.mod_eq_of_lt (by omega)]
 show IntKind.u16.wrap ((BitVec.ofInt 16 (z:Int) ||| BitVec.ofInt 16 (m:Int)).toNat:Int)=_;rw[hmm];generalize z ||| m=r at *
 show((r:Int) % 65536)=_;omega
theorem lU(z q:Nat)(hz:z<65536)(hq:q<16):z ||| 2 ^ q<65536:=Nat.or_lt_two_pow (n:=16) hz (Nat.pow_lt_pow_right (by omega) hq)
theorem fT:∀(l:List Int) (z:Nat),(∀x∈l,0<=x/\x<16)->z<65536->setL l z<65536
 | [],_,_,hz=>hz
 | x::l,z,h,hz=>fT l _ (λy hy=>h y (by simp[hy])) (lU z _ hz (by have:=h x (by simp);omega))
theorem lW{b9:Nat}(v:Value)(l:List Int)(w:World)(hv:SlAt b9 w 1 IsI v l)(hr:∀x∈l,0<=x/\x<16) :
  Calls prog 130 #[v] w λe w'=>e=.returned (.int .u16 (setL l 0:Nat))/\w'=w:=by
 have HR:Hid (∀x∈l,0<=x/\x<16):=hr;obtain⟨A,cap,rfl,c0,c1,c2,c3⟩:=hv;unfold maxLen at c2;clear hr;go_enter func130,ntmps130;go_wp2_with fail;go_loopw[3,8] (λz i wr=>∃(k y:Nat),z=.int .u16 (y:Int)/\i=.int .i64 (k:Int)/\k<=l.length/\y<65536/\Hid (setL l 0=setL (l.drop k) y)/\wr=w) (λ_ i _=>l.length-(intOf i).toNat)
 case atStart=>exact⟨0,0,rfl,rfl,Nat.zero_le _,by omega,rfl,rfl⟩
 case round =>
  obtain⟨k,y,rfl,rfl,hk,hy,HA,rfl⟩:=hrel;by_cases hlt:k<l.length
  ·obtain⟨x,hxk⟩:∃x,l[k]?=some x:=⟨l[k],List.getElem?_eq_getElem hlt⟩;obtain⟨b,o,rfl,hbl,hr⟩:=c3 (by intro e;subst e;simp at hlt);obtain⟨cs,e1,e2,e3⟩:=hr k x hxk;have hx:=HR.out x (List.mem_of_getElem? hxk);obtain⟨q,rfl⟩:∃q:Nat,x=(q:Int):=⟨x.toNat,by omega⟩;have hc:wr.cell? ⟨b,o+k,none⟩=some (.int .i64 (q:Int)):=by
    have e4:cs=[.int .i64 (q:Int)]:=e2;subst e4;simpa using e3 0 _ rfl
   have hdrop:l.drop k=(q:Int)::l.drop (k+1):=by
    rw[List.drop_eq_getElem_cons hlt]
    congr 1
    rw[List.getElem?_eq_getElem hlt]at hxk;exact Option.some.inj hxk
   have HV:Hid (setL l 0=setL (l.drop (k+1)) (y ||| 2 ^ q)):=by
    show _=_;rw[HA.out,hdrop,setL,Int.toNat_natCast]
   have k1:(0:Int)<=(q:Int):=by omega
   have k2:(q:Int)<16:=by omega
   have HM:Go.bits .or .u16 (y:Int) (IntKind.u16.wrap ((2:Int) ^ q))=((y ||| 2 ^ q:Nat):Int):=uX y q hy (by omega);have HL:=lU y q hy (by omega);clear hr e1 e2 e3 c3 HA hdrop HR hxk;go_wp2_with fail;go_roundw
   case rel=>exact⟨k+1,y ||| 2 ^ q,rfl,by go_num,by omega,HL,HV,trivial⟩
   case measure=>simp[intOf];omega
  ·have HV:Hid (setL l 0=y):=by
    show _=_;rw[HA.out,List.drop_of_length_le (by omega),setL]
   clear HA HR c3;go_wp2_with fail;go_ret;rw[HV.out];exact⟨rfl,rfl⟩
theorem Bz.al{W:World}{k:Nat}{c:Array Value}{t:TypeId}(h:Bz W k c t)(o:Obj):Bz (W.alloc o) k c t:=(Below.heap_alloc W o k h.lt).trans h
theorem fU(v:Value)(l:List Int)(w:World)(hv:SlAt w.heap.size w 1 IsI v l)(hr:∀x∈l,0<=x/\x<16) :
  Calls prog 69 #[v] w λe w'=>e=.returned (mt (setL l 0) 65535 255 255)/\Below w.heap.size w w':=by
 have SO:Hid (∀ww,Below w.heap.size w ww->Calls prog 130 #[v] ww λe w'=>e=.returned (.int .u16 (setL l 0:Nat))/\w'=ww):=λww hb=>lW v l ww (hv.below hb (λ_ _ _ h=>h)) hr;clear hv hr;generalize setL l 0=z at *;go_enter func69,ntmps69;go_wp2_with fail;refine(all_any _).mono ?_;rintro e w1⟨rfl,hb1⟩;have Z0:Bz (w.alloc (.cells #[.int .u16 0,.int .u16 0,.int .u8 0,.int .u8 0] 32)) w.heap.size _ _:=Bz.new w _ _ _ rfl;have Z1:Bz w1 w.heap.size _ _:=(hb1.block _ Z0.lt).trans Z0;have D1:Below w.heap.size w w1:=((Below.refl _ w).alloc (Nat.le_refl _) _).trans (hb1.mono (Nat.le_of_lt Z0.lt));have lt1:=Z1.lt;have z0:=Z1.cell 0 (.int .u16 0) rfl;have z1:=Z1.cell 1 (.int .u16 0) rfl;have z2:=Z1.cell 2 (.int .u8 0) rfl;have z3:=Z1.cell 3 (.int .u8 0) rfl;have f0:=Z1.free 0;have f1:=Z1.free 1;have f2:=Z1.free 2;have f3:=Z1.free 3;unfold mt at *;have Z1h:=Hq.mk Z1;clear hb1 Z0 Z1;go_wp2_with fail;refine(SO.out _ (by go_grown)).mono ?_;rintro e w2⟨rfl,rfl⟩;clear SO;go_wp2_with fail;have Zf:=((((Z1h.out.set (j:=0) (.int .u16 (z:Int))).set (j:=1) (.int .u16 (65535:Int))).set (j:=2) (.int .u8 255)).set (j:=3) (.int .u8 255)).al (.cells #[(.int .u16 (z:Int)),(.int .u16 (65535:Int)),.int .u8 255,.int .u8 255] 32);have g0:=Zf.cell 0 (.int .u16 (z:Int)) rfl;have g1:=Zf.cell 1 (.int .u16 (65535:Int)) rfl;have g2:=Zf.cell 2 (.int .u8 255) rfl;have g3:=Zf.cell 3 (.int .u8 255) rfl;exact bodyPost_ret (v:=mt z 65535 255 255) (by simp[results,results69,go_sem,g0,g1,g2,g3]) rfl ⟨rfl,by go_grown⟩
theorem fV(v:Value)(l:List Int)(w:World)(hv:SlAt w.heap.size w 1 IsI v l)(hr:∀x∈l,0<=x/\x<16) :
  Calls prog 202 #[v] w λe w'=>e=.returned (mt 65535 (setL l 0) 255 255)/\Below w.heap.size w w':=by
 have SO:Hid (∀ww,Below w.heap.size w ww->Calls prog 130 #[v] ww λe w'=>e=.returned (.int .u16 (setL l 0:Nat))/\w'=ww):=λww hb=>lW v l ww (hv.below hb (λ_ _ _ h=>h)) hr;clear hv hr;generalize setL l 0=z at *;go_enter func202,ntmps202;go_wp2_with fail;refine(all_any _).mono ?_;rintro e w1⟨rfl,hb1⟩;have Z0:Bz (w.alloc (.cells #[.int .u16 0,.int .u16 0,.int .u8 0,.int .u8 0] 32)) w.heap.size _ _:=Bz.new w _ _ _ rfl;have Z1:Bz w1 w.heap.size _ _:=(hb1.block _ Z0.lt).trans Z0;have D1:Below w.heap.size w w1:=((Below.refl _ w).alloc (Nat.le_refl _) _).trans (hb1.mono (Nat.le_of_lt Z0.lt));have lt1:=Z1.lt;have z0:=Z1.cell 0 (.int .u16 0) rfl;have z1:=Z1.cell 1 (.int .u16 0) rfl;have z2:=Z1.cell 2 (.int .u8 0) rfl;have z3:=Z1.cell 3 (.int .u8 0) rfl;have f0:=Z1.free 0;have f1:=Z1.free 1;have f2:=Z1.free 2;have f3:=Z1.free 3;unfold mt at *;have Z1h:=Hq.mk Z1;clear hb1 Z0 Z1;go_wp2_with fail;refine(SO.out _ (by go_grown)).mono ?_;rintro e w2⟨rfl,rfl⟩;clear SO;go_wp2_with fail;have Zf:=((((Z1h.out.set (j:=0) (.int .u16 (65535:Int))).set (j:=1) (.int .u16 (z:Int))).set (j:=2) (.int .u8 255)).set (j:=3) (.int .u8 255)).al (.cells #[(.int .u16 (65535:Int)),(.int .u16 (z:Int)),.int .u8 255,.int .u8 255] 32);have g0:=Zf.cell 0 (.int .u16 (65535:Int)) rfl;have g1:=Zf.cell 1 (.int .u16 (z:Int)) rfl;have g2:=Zf.cell 2 (.int .u8 255) rfl;have g3:=Zf.cell 3 (.int .u8 255) rfl;exact bodyPost_ret (v:=mt 65535 z 255 255) (by simp[results,results202,go_sem,g0,g1,g2,g3]) rfl ⟨rfl,by go_grown⟩
end Go.Proofs.YtppbfikimalojaaGreat
