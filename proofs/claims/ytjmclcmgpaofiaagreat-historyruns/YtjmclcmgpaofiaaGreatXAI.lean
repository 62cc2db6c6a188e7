/-
  XAI.
-/
import Derived.Test.YtjmclcmgpaofiaaGreatXLy
import Derived.Test.YtjmclcmgpaofiaaGreatProg
import Derived.Maps.OwnSet
import Derived.WalkKit
import Derived.DeepKeys5
import Derived.Deep.AppendLies
import Derived.Deep.RegionHeld3
import Derived.Deep.DeepCutAuto
import Derived.BigQuiet
import Derived.Deep.RegionLaw
set_option maxHeartbeats 8000000
set_option maxRecDepth 100000
namespace Go.Proofs.YtjmclcmgpaofiaaGreat
open Tryz
abbrev Nd:=Nat × Nat × Nat
def nd(ns:List Nd)(f:Nat):Nd:=ns.getD f (0,0,0)
abbrev nv(ns:List Nd)(f:Nat):Nat:=(nd ns f).1
abbrev nl(ns:List Nd)(f:Nat):Nat:=(nd ns f).2.1
abbrev nh(ns:List Nd)(f:Nat):Nat:=(nd ns f).2.2
structure Wf(a8:Nat)(ns:List Nd):Prop where
 len:2<=ns.length
 n0:nd ns 0=(a8,0,0)
 n1:nd ns 1=(a8,1,1)
 va:∀f,2<=f->f<ns.length->nv ns f<a8
 lo:∀f,2<=f->f<ns.length->nl ns f<f
 hi:∀f,2<=f->f<ns.length->nh ns f<f
 ne:∀f,2<=f->f<ns.length->nl ns f≠nh ns f
 vlo:∀f,2<=f->f<ns.length->nv ns f<nv ns (nl ns f)
 vhi:∀f,2<=f->f<ns.length->nv ns f<nv ns (nh ns f)
 uniq:∀f g,2<=f->f<ns.length->2<=g->g<ns.length->nd ns f=nd ns g->f=g
abbrev Env:=Nat->Bool
def setE(e:Env)(i:Nat)(b:Bool):Env:=λj=>if j=i then b else e j
theorem gm(e:Env)(i:Nat)(b:Bool):setE e i b i=b:=by simp[setE]
theorem cM(e:Env){i j:Nat}(b:Bool)(h:j≠i):setE e i b j=e j:=by simp[setE,h]
theorem zu(e:Env)(i:Nat):setE e i (e i)=e:=by
 funext j
 unfold setE
 split
 ·rename_i h;rw[h]
 ·rfl
def evF(ns:List Nd):Nat->Nat->Env->Bool
 | 0,f,_=>f == 1
 | k+1,f,e=>if f<=1 then f == 1 else if e (nv ns f)then evF ns k (nh ns f) e else evF ns k (nl ns f) e
def ev(ns:List Nd)(f:Nat)(e:Env):Bool:=evF ns f f e
variable {a8:Nat}{ns ns':List Nd}
theorem lB(h:Wf a8 ns):∀(k f:Nat) (e:Env),f<ns.length->f<=k->evF ns k f e=ev ns f e:=by
 intro k
 induction k using Nat.strongRecOn with
 | _ k ih =>
   intro f e hf hk;by_cases h1:f<=1
   ·unfold ev
    match k,f,h1 with
    | 0,0,_=>rfl
    | k+1,0,_=>rfl
    | 0,1,_=>rfl
    | k+1,1,_=>rfl
   ·have l1:=h.lo f (by omega) hf;have l2:=h.hi f (by omega) hf;obtain⟨m,rfl⟩:∃m,f=m+1:=⟨f-1,by omega⟩;obtain⟨k',rfl⟩:∃k',k=k'+1:=⟨k-1,by omega⟩;unfold ev;rw[evF,if_neg h1,evF,if_neg h1,ih k' (by omega) _ _ (by omega) (by omega),ih k' (by omega) _ _ (by omega) (by omega)];by_cases hm:m<k'+1
    ·rw[ih m (by omega) _ _ (by omega) (by omega),ih m (by omega) _ _ (by omega) (by omega)]
    ·omega
theorem ev0(ns:List Nd)(e:Env):ev ns 0 e=false:=rfl
theorem ev1(ns:List Nd)(e:Env):ev ns 1 e=true:=by simp[ev,evF]
theorem cE(h:Wf a8 ns){f:Nat}(h2:2<=f)(hf:f<ns.length)(e:Env):ev ns f e=if e (nv ns f)then ev ns (nh ns f) e else ev ns (nl ns f) e:=by
 have l1:=h.lo f h2 hf;have l2:=h.hi f h2 hf;have:=lB h (f+1) f e hf (by omega);rw[<- this,evF,if_neg (by omega),lB h f _ e (by omega) (by omega),lB h f _ e (by omega) (by omega)]
theorem va_le(h:Wf a8 ns){f:Nat}(hf:f<ns.length):nv ns f<=a8:=by
 by_cases h2:2<=f
 ·exact Nat.le_of_lt (h.va f h2 hf)
 ·match f,h2 with
  | 0,_=>simp[nv,h.n0]
  | 1,_=>simp[nv,h.n1]
  | f+2,h2=>omega
theorem va_lt(h:Wf a8 ns){f:Nat}(hf:f<ns.length)(hv:nv ns f<a8):2<=f:=by
 by_cases h2:2<=f
 ·exact h2
 ·match f,h2 with
  | 0,_=>simp[nv,h.n0]at hv
  | 1,_=>simp[nv,h.n1]at hv
  | f+2,h2=>omega
theorem ip(h:Wf a8 ns):∀(f:Nat),f<ns.length->∀e e':Env,(∀i,nv ns f<=i->i<a8->e i=e' i)->ev ns f e=ev ns f e':=by
 intro f
 induction f using Nat.strongRecOn with
 | _ f ih =>
   intro hf e e' he;by_cases h2:2<=f
   ·have l1:=h.lo f h2 hf;have l2:=h.hi f h2 hf;have v1:=h.vlo f h2 hf;have v2:=h.vhi f h2 hf;rw[cE h h2 hf,cE h h2 hf,he _ (Nat.le_refl _) (h.va f h2 hf)];rw[ih _ l2 (by omega) e e' (λi hi hv=>he i (by omega) hv),ih _ l1 (by omega) e e' (λi hi hv=>he i (by omega) hv)]
   ·match f,h2 with
    | 0,_=>rfl
    | 1,_=>rw[ev1,ev1]
    | f+2,h2=>omega
theorem fI(h:Wf a8 ns){f:Nat}(hf:f<ns.length){i:Nat}(hi:i<nv ns f)(e:Env)(b:Bool):ev ns f (setE e i b)=ev ns f e :=
 ip h f hf _ _ (λj hj _=>cM e b (by omega))
theorem cV(h:Wf a8 ns){f:Nat}(h2:2<=f)(hf:f<ns.length)(e:Env)(b:Bool):ev ns f (setE e (nv ns f) b)=if b then ev ns (nh ns f) e else ev ns (nl ns f) e:=by
 have l1:=h.lo f h2 hf;have l2:=h.hi f h2 hf;rw[cE h h2 hf,gm,fI h (by omega) (h.vhi f h2 hf),fI h (by omega) (h.vlo f h2 hf)]
theorem zx(h:Wf a8 ns):∀(n f g:Nat),f<n->g<n->f<ns.length->g<ns.length->(∀e,ev ns f e=ev ns g e)->f=g:=by
 intro n
 induction n with
 | zero=>intro f g hn;omega
 | succ n ih =>
   have one:∀f g,f<n+1->2<=f->f<ns.length->g<ns.length->nv ns f<nv ns g->(∀e,ev ns f e=ev ns g e)->False:=by
    intro f g hn h2 hf hg hv he;have l1:=h.lo f h2 hf;have l2:=h.hi f h2 hf;refine h.ne f h2 hf (ih _ _ (by omega) (by omega) (by omega) (by omega) ?_);intro e;have a1:=cV h h2 hf e false;have a2:=cV h h2 hf e true;simp only[if_true,Bool.false_eq_true,if_false]at a1 a2;rw[<- a1,<- a2,he,he,fI h hg hv,fI h hg hv]
   intro f g hfn hgn hf hg he;rcases Nat.lt_trichotomy (nv ns f) (nv ns g)with hv|hv|hv
   ·exact(one f g hfn (va_lt h hf (Nat.lt_of_lt_of_le hv (va_le h hg))) hf hg hv he).elim
   ·by_cases h2:2<=f
    ·have g2:2<=g:=va_lt h hg (by rw[<- hv];exact h.va f h2 hf);have l1:=h.lo f h2 hf;have l2:=h.hi f h2 hf;have m1:=h.lo g g2 hg;have m2:=h.hi g g2 hg;have e1:nl ns f=nl ns g:=ih _ _ (by omega) (by omega) (by omega) (by omega) (λe=>by
      have a1:=cV h h2 hf e false;have a2:=cV h g2 hg e false;simp only[Bool.false_eq_true,if_false]at a1 a2;rw[<- a1,<- a2,he,hv])
     have e2:nh ns f=nh ns g:=ih _ _ (by omega) (by omega) (by omega) (by omega) (λe=>by
      have a1:=cV h h2 hf e true;have a2:=cV h g2 hg e true;simp only[if_true]at a1 a2;rw[<- a1,<- a2,he,hv])
     exact h.uniq f g h2 hf g2 hg (Prod.ext hv (Prod.ext e1 e2))
    ·by_cases g2:2<=g
     ·have:=va_lt h hf (by rw[hv];exact h.va g g2 hg);omega
     ·have e0:=he (λ_=>false)
      match f,g,h2,g2 with
      | 0,0,_,_=>rfl
      | 1,1,_,_=>rfl
      | 0,1,_,_=>rw[ev0,ev1]at e0;cases e0
      | 1,0,_,_=>rw[ev0,ev1]at e0;cases e0
      | f+2,_,h2,_=>omega
      | _,g+2,_,g2=>omega
   ·exact(one g f hgn (va_lt h hg (Nat.lt_of_lt_of_le hv (va_le h hf))) hg hf hv (λe=>(he e).symm)).elim
theorem lC(h:Wf a8 ns){f g:Nat}(hf:f<ns.length)(hg:g<ns.length)(he:∀e,ev ns f e=ev ns g e):f=g :=
 zx h (max f g+1) f g (by omega) (by omega) hf hg he
def Ext(ns ns':List Nd):Prop:=∃more,ns'=ns++more
theorem Ext.refl(ns:List Nd):Ext ns ns:=⟨[],by simp⟩
theorem Ext.trans{a b c:List Nd}(h:Ext a b)(k:Ext b c):Ext a c:=by
 obtain⟨x,rfl⟩:=h;obtain⟨y,rfl⟩:=k;exact⟨x++y,by simp⟩
theorem Ext.len(h:Ext ns ns'):ns.length<=ns'.length:=by
 obtain⟨x,rfl⟩:=h;simp
theorem Ext.nd(h:Ext ns ns'){f:Nat}(hf:f<ns.length):nd ns' f=nd ns f:=by
 obtain⟨x,rfl⟩:=h;simp[YtjmclcmgpaofiaaGreat.nd,List.getElem?_append_left hf]
theorem Ext.va(h:Ext ns ns'){f:Nat}(hf:f<ns.length):nv ns' f=nv ns f:=by rw[nv,h.nd hf]
theorem Ext.ev(h:Ext ns ns')(wf:Wf a8 ns)(wf':Wf a8 ns'):∀(f:Nat),f<ns.length->∀e,ev ns' f e=ev ns f e:=by
 intro f
 induction f using Nat.strongRecOn with
 | _ f ih =>
   intro hf e;by_cases h2:2<=f
   ·have l1:=wf.lo f h2 hf;have l2:=wf.hi f h2 hf;have hl:=h.len;rw[cE wf' h2 (by omega),cE wf h2 hf,show nv ns' f=nv ns f from h.va hf,show nh ns' f=nh ns f by rw[nh,h.nd hf],show nl ns' f=nl ns f by rw[nl,h.nd hf],
     ih _ l2 (by omega),ih _ l1 (by omega)]
   ·match f,h2 with
    | 0,_=>rfl
    | 1,_=>rw[ev1,ev1]
    | f+2,h2=>omega
theorem zy(h:Wf a8 ns){n:Nd}(hv:n.1<a8)(hlo:n.2.1<ns.length)(hhi:n.2.2<ns.length)(hne:n.2.1≠n.2.2)(v1:n.1<nv ns n.2.1)(v2:n.1<nv ns n.2.2)
  (hnew:∀f,2<=f->f<ns.length->nd ns f≠n):Wf a8 (ns++[n]):=by
 have X:Ext ns (ns++[n]):=⟨[n],rfl⟩;have last:nd (ns++[n]) ns.length=n:=by simp[nd]
 have len':(ns++[n]).length=ns.length+1:=by simp
 have h2:=h.len;refine⟨by rw[len'];omega,by rw[X.nd (by omega)];exact h.n0,by rw[X.nd (by omega)];exact h.n1,?_,?_,?_,?_,?_,?_,?_⟩
 ·intro f f2 hf;by_cases hl:f<ns.length
  ·rw[nv,X.nd hl];exact h.va f f2 hl
  ·obtain rfl:f=ns.length:=by omega
   rw[nv,last];exact hv
 ·intro f f2 hf;by_cases hl:f<ns.length
  ·rw[nl,X.nd hl];exact h.lo f f2 hl
  ·obtain rfl:f=ns.length:=by omega
   rw[nl,last];exact hlo
 ·intro f f2 hf;by_cases hl:f<ns.length
  ·rw[nh,X.nd hl];exact h.hi f f2 hl
  ·obtain rfl:f=ns.length:=by omega
   rw[nh,last];exact hhi
 ·intro f f2 hf;by_cases hl:f<ns.length
  ·rw[nl,nh,X.nd hl];exact h.ne f f2 hl
  ·obtain rfl:f=ns.length:=by omega
   rw[nl,nh,last];exact hne
 ·intro f f2 hf;by_cases hl:f<ns.length
  ·have:=h.lo f f2 hl;rw[nv,nl,X.nd hl,nv,X.nd (Nat.lt_trans this hl)];exact h.vlo f f2 hl
  ·obtain rfl:f=ns.length:=by omega
   rw[nv,nl,last,nv,X.nd hlo];exact v1
 ·intro f f2 hf;by_cases hl:f<ns.length
  ·have:=h.hi f f2 hl;rw[nv,nh,X.nd hl,nv,X.nd (Nat.lt_trans this hl)];exact h.vhi f f2 hl
  ·obtain rfl:f=ns.length:=by omega
   rw[nv,nh,last,nv,X.nd hhi];exact v2
 ·intro f g f2 hf g2 hg he;by_cases hl:f<ns.length
  ·by_cases gl:g<ns.length
   ·rw[X.nd hl,X.nd gl]at he;exact h.uniq f g f2 hl g2 gl he
   ·obtain rfl:g=ns.length:=by omega
    rw[X.nd hl,last]at he;exact(hnew f f2 hl he).elim
  ·obtain rfl:f=ns.length:=by omega
   by_cases gl:g<ns.length
   ·rw[X.nd gl,last]at he;exact(hnew g g2 gl he.symm).elim
   ·omega
theorem zA(a8:Nat):Wf a8 [(a8,0,0),(a8,1,1)]:=by
 refine⟨by simp,rfl,rfl,?_,?_,?_,?_,?_,?_,?_⟩ <;>(intro f;intros;simp only[List.length_cons,List.length_nil]at *;omega)
structure IsNode(ns:List Nd)(v l h f:Nat):Prop where
 lt:f<ns.length
 ev:∀e,ev ns f e=if e v then ev ns h e else ev ns l e
 va:v<=nv ns f
theorem zC{v l:Nat}(hl:l<ns.length)(hv:v<nv ns l):IsNode ns v l l l:=⟨hl,λe=>by simp,Nat.le_of_lt hv⟩
theorem pO(h:Wf a8 ns){v l u f:Nat}(f2:2<=f)(hf:f<ns.length)(hn:nd ns f=(v,l,u)):IsNode ns v l u f :=
 ⟨hf,λe=>by rw[cE h f2 hf];simp only[nv,nl,nh,hn],by simp[nv,hn]⟩
end Go.Proofs.YtjmclcmgpaofiaaGreat
namespace Go.Proofs.YtjmclcmgpaofiaaGreat
open Tryz
open Go.RowKit Go.Maps
theorem tz0:prog.underlying 3=some (.int .i64):=by kernel_rfl
theorem tz1:prog.underlying 80=some (.map 144 3):=by kernel_rfl
theorem tz2:prog.underlying 228=some (.map 249 3):=by kernel_rfl
theorem tz3:prog.underlying 229=some (.map 296 3):=by kernel_rfl
theorem tz4:prog.underlying 188=some (.map 3 3):=by kernel_rfl
theorem tz5:prog.underlying 79=some (.slice 144):=by kernel_rfl
theorem zero3(w:World):(zeroValue 3).run prog w=.ok (.int .i64 0) w:=by kernel_rfl
theorem tz6:laidOutB prog=true:=by kernel_rfl
theorem tz7:prog.types.size=315:=by kernel_rfl
theorem law3:Keyed prog 3:=int_keyed tz0
theorem tz8:prog.cellsOf 3=1:=by kernel_rfl
theorem tz9:prog.cellsOf 4=1:=by kernel_rfl
theorem law37:Keyed prog 144:=Keyed.of_law (deep_law_gate (k:=144) tz6 (by rw[tz7];decide) (by rw[tz7];decide) (by kernel_rfl) (by kernel_rfl))
theorem law56:Keyed prog 249:=Keyed.of_law (deep_law_gate (k:=249) tz6 (by rw[tz7];decide) (by rw[tz7];decide) (by kernel_rfl) (by kernel_rfl))
theorem law62:Keyed prog 296:=Keyed.of_law (deep_law_gate (k:=296) tz6 (by rw[tz7];decide) (by rw[tz7];decide) (by kernel_rfl) (by kernel_rfl))
theorem dT{n:Nat}(h:n<9223372036854775808):(Lit.int .i64 (n:Int)).wf=true:=WalkArith.wf_i64 (by omega)
structure KeyEnc(k:TypeId)(α:Type) where
 enc:α->Value
 ok:α->Prop
 lit:α->Lit
 law:Keyed prog k
 key:∀x,ok x->keyOf prog k (enc x)=some (lit x)
 inj:∀x y,enc x=enc y->x=y
def MapIs{k:TypeId}{α:Type}(E:KeyEnc k α)(w:World)(b n:Nat)(f:α->Option Nat):Prop :=
 ∃D:DataW Unit,w.ownsMap prog k (plainElem prog 3) b n D /\ ∀x,E.ok x->Maps.has D (E.lit x)=(f x).isSome /\ D.atKey (E.lit x) (.lit (.int .i64 0))=.lit (.int .i64 (((f x).getD 0:Nat):Int))
open Classical in
noncomputable def upd {α:Type}(f:α->Option Nat)(x:α)(v:Nat):α->Option Nat:=λy=>if y=x then some v else f y
section
variable {k:TypeId}{α:Type}{E:KeyEnc k α}{w w':World}{b n:Nat}{f:α->Option Nat}
theorem MapIs.lt(h:MapIs E w b n f):b<w.heap.size:=by
 obtain⟨D,h,_⟩:=h;exact h.lt
theorem MapIs.isMap(h:MapIs E w b n f):∃es clock,w.heap[b]?=some (.map es clock):=by
 obtain⟨D,⟨es,clock,hb,_⟩,_⟩:=h;exact⟨es,clock,hb⟩
theorem MapIs.mono(h:MapIs E w b n f){n':Nat}(hn:n<=n'):MapIs E w b n' f:=by
 obtain⟨D,h,r⟩:=h;exact⟨D,h.mono hn,r⟩
theorem MapIs.same(h:MapIs E w b n f)(hb:w'.heap[b]?=w.heap[b]?):MapIs E w' b n f:=by
 obtain⟨D,⟨es,clock,h1,r⟩,r'⟩:=h;exact⟨D,⟨es,clock,hb.trans h1,r⟩,r'⟩
theorem ei(E:KeyEnc k α)(w:World):MapIs E (w.alloc (.map #[] 0)) w.heap.size 0 (λ_=>none) :=
 ⟨.map [],World.ownsMap_made w _ _ _,λ_ _=>⟨rfl,rfl⟩⟩
theorem MapIs.look(h:MapIs E w b n f){t:TypeId}(ht:prog.underlying t=some (.map k 3)){x:α}(hx:E.ok x) :
  (Instr.lookup t (.map (some b)) (E.enc x) true).run prog w=.ok (.tuple #[.int .i64 (((f x).getD 0:Nat):Int),.bool (f x).isSome]) w:=by
 obtain⟨D,h,r⟩:=h;obtain⟨v,ps,hrun,hv⟩:=h.look_ok E.law ht (zero3 w) (plainElem_int tz0 (by decide)) (E.key x hx);rw[(r x hx).2]at hv;obtain⟨c,rfl,hc,_⟩:=plainElem_int_inv tz0 hv;simp only[Prod.mk.injEq,DataW.lit.injEq,Lit.int.injEq,true_and]at hc;rw[hrun,(r x hx).1,hc.1]
theorem MapIs.store(h:MapIs E w b n f){t:TypeId}(ht:prog.underlying t=some (.map k 3))(hn:n<maxLen){x:α}(hx:E.ok x){v:Nat}(hv:v<9223372036854775808) :
  ∃w',(Instr.mapUpdate t (.map (some b)) (E.enc x) (.int .i64 (v:Int))).run prog w=.ok () w' /\ MapIs E w' b (n+1) (upd f x v) /\ w.grownBy w' (some b):=by
 obtain⟨D,h,r⟩:=h;obtain⟨w',hrun,hown,hgrow⟩:=h.update E.law ht hn (E.key x hx) (plainElem_int tz0 (dT hv));refine⟨w',hrun,⟨_,hown,λy hy=>?_⟩,hgrow⟩;by_cases e:y=x
 ·subst e;rw[has_put_same h.isMap (E.law.key (E.key y hy)),atKey_put_same h.isMap (E.law.key (E.key y hy))];simp[upd]
 ·have hne:E.lit y≠E.lit x:=λhl=>by
   have k1:=E.key y hy;rw[hl]at k1;exact e (E.inj _ _ (E.law.inj k1 (E.key x hx)))
  rw[has_put_other hne,atKey_put_other hne];simp[upd,e,r y hy]
end
def ok3(n:Nd):Prop:=n.1<9223372036854775808 /\ n.2.1<9223372036854775808 /\ n.2.2<9223372036854775808
abbrev aU(n:Nd):Value:=.agg #[(n.1:Int),(n.2.1:Int),(n.2.2:Int)]
theorem pP(x y:Nd)(h:aU x=aU y):x=y:=by
 obtain⟨a,b,c⟩:=x;obtain⟨d,e,f⟩:=y;simp at h;simp;omega
noncomputable def eK (k:TypeId)(v:Value):Lit:=(keyOf prog k v).getD (.bool false)
theorem lD{k:TypeId}{v:Value}(hs:(keyOf prog k v).isSome=true):keyOf prog k v=some (eK k v):=by
 unfold eK;cases hk:keyOf prog k v with
 | none=>rw[hk]at hs;cases hs
 | some l=>rfl
theorem tz10:∃m,prog.types.size+1=m+2:=⟨314,by rw[tz7]⟩
theorem key37(n:Nd)(h:ok3 n):keyOf prog 144 (aU n)=some (eK 144 (aU n)):=by
 obtain⟨h1,h2,h3⟩:=h;have w1:=dT h1;have w2:=dT h2;have w3:=dT h3;obtain⟨m,hm⟩:=tz10;refine lD ?_;unfold keyOf;simp only[underlying144];rw[if_pos (by kernel_rfl),hm];unfold Program.keyLits;simp only[underlying144,Value.cells];rw[if_pos ⟨by kernel_rfl,by kernel_rfl⟩];simp[Program.keyLits,underlying3,w1,w2,w3,tz8]
theorem key56(n:Nd)(h:ok3 n):keyOf prog 249 (aU n)=some (eK 249 (aU n)):=by
 obtain⟨h1,h2,h3⟩:=h;have w1:=dT h1;have w2:=dT h2;have w3:=dT h3;obtain⟨m,hm⟩:=tz10;refine lD ?_;unfold keyOf;simp only[underlying249];rw[if_pos (by kernel_rfl),hm];unfold Program.keyLits;simp only[underlying249,Value.cells];rw[if_pos ⟨by kernel_rfl,by kernel_rfl⟩];simp[Program.keyLits,underlying3,w1,w2,w3,tz8]
abbrev Mx:=Nat × Nat × Bool
def okx(n:Mx):Prop:=n.1<9223372036854775808 /\ n.2.1<9223372036854775808
abbrev cF(n:Mx):Value:=.agg #[(n.1:Int),(n.2.1:Int),.bool n.2.2]
theorem zD(x y:Mx)(h:cF x=cF y):x=y:=by
 obtain⟨a,b,c⟩:=x;obtain⟨d,e,f⟩:=y;simp at h;obtain⟨h1,h2,rfl⟩:=h;simp;omega
theorem key62(n:Mx)(h:okx n):keyOf prog 296 (cF n)=some (eK 296 (cF n)):=by
 obtain⟨h1,h2⟩:=h;have w1:=dT h1;have w2:=dT h2;obtain⟨m,hm⟩:=tz10;refine lD ?_;unfold keyOf;simp only[underlying296];rw[if_pos (by kernel_rfl),hm];unfold Program.keyLits;simp only[underlying296,Value.cells];rw[if_pos ⟨by kernel_rfl,by kernel_rfl⟩];simp[Program.keyLits,underlying3,underlying4,w1,w2,tz8,tz9]
noncomputable def fJ:KeyEnc 144 Nd:=⟨aU,ok3,λn=>eK 144 (aU n),law37,key37,pP⟩
noncomputable def eM:KeyEnc 249 Nd:=⟨aU,ok3,λn=>eK 249 (aU n),law56,key56,pP⟩
noncomputable def em:KeyEnc 296 Mx:=⟨cF,okx,λn=>eK 296 (cF n),law62,key62,zD⟩
noncomputable def aH:KeyEnc 3 Nat:=⟨λn=>.int .i64 (n:Int),λn=>n<9223372036854775808,λn=>.int .i64 (n:Int),law3,λ_ h=>keyOf_int_mk tz0 (dT h),λx y h=>by simp at h;omega⟩
def bV(ns:List Nd):List Value:=ns.flatMap λn=>[.int .i64 (n.1:Int),.int .i64 (n.2.1:Int),.int .i64 (n.2.2:Int)]
theorem zE(a b:List Nd):bV (a++b)=bV a++bV b:=by simp[bV]
theorem pQ:∀(ns:List Nd) (f:Nat),f<ns.length ->
  (bV ns)[f*3]?=some (.int .i64 (nv ns f:Int)) /\ (bV ns)[f*3+1]?=some (.int .i64 (nl ns f:Int)) /\ (bV ns)[f*3+2]?=some (.int .i64 (nh ns f:Int))
 | [],f,h=>by simp at h
 | _::_,0,_=>⟨rfl,rfl,rfl⟩
 | n::r,f+1,h=>by
   have ih:=pQ r f (by simpa using h);have e:bV (n::r)=[.int .i64 (n.1:Int),.int .i64 (n.2.1:Int),.int .i64 (n.2.2:Int)]++bV r:=rfl;have en:nd (n::r) (f+1)=nd r f:=by simp[nd]
   rw[e,nv,nl,nh,en];refine⟨?_,?_,?_⟩
   ·rw[List.getElem?_append_right (by simp;omega)];simpa[show(f+1)*3-3=f*3 by omega]using ih.1
   ·rw[List.getElem?_append_right (by simp;omega)];simpa[show(f+1)*3+1-3=f*3+1 by omega]using ih.2.1
   ·rw[List.getElem?_append_right (by simp;omega)];simpa[show(f+1)*3+2-3=f*3+2 by omega]using ih.2.2
def rowOf(w:World)(a:Nat):Nat :=
 match w.heap[a]? with
 | some (.cells cs _ _)=>((cs[2]?).bind Value.ownBlock).getD 0
 | _=>0
theorem aQ{w w':World}{a:Nat}(h:w'.heap[a]?=w.heap[a]?):rowOf w' a=rowOf w a:=by simp only[rowOf,h]
def jF(ns:List Nd)(num:Nd->Option Nat):Prop:=∀n f,num n=some f ↔ 2<=f /\ f<ns.length /\ nd ns f=n
structure ArC(a8 a7 g len cap M:Nat)(cs:Array Value)(t:TypeId):Prop where
 c0:cs[0]?=some (.int .i64 (a8:Int))
 c1:cs[1]?=some (.int .i64 (a7:Int))
 c2:cs[2]?=some (.slice g len cap)
 c3:cs[3]?=some (.map (some M))
 ty:t=82\/t=85
theorem bJ{w w':World}{b o:Nat}(h:w'.heap[b]?=w.heap[b]?):w'.cell? ⟨b,o,none⟩=w.cell? ⟨b,o,none⟩:=by simp[World.cell?,h]
structure Ar(a9 a M a8 a7:Nat)(w:World)(ns:List Nd):Prop where
 wf:Wf a8 ns
 le:ns.length<=a7
 vars1:1<=a8
 vars16:a8<=16
 most4:a7<=40000
 lowA:a9<=a
 lowM:a9<=M
 blk:∃g cap cs t,w.heap[a]?=some (.cells cs t (0,0)) /\ ArC a8 a7 g ns.length cap M cs t /\
  w.ownsRow a9 144 3 (.slice (some ⟨g,0,none⟩) ns.length cap) ns.length (bV ns)
 map:∃num,MapIs fJ w M ns.length num /\ jF ns num
section
variable {a9 a M a8 a7:Nat}{w w':World}{ns:List Nd}
theorem Ar.lta(h:Ar a9 a M a8 a7 w ns):a<w.heap.size:=by
 obtain⟨g,cap,cs,t,hb,_⟩:=h.blk;exact(Array.getElem?_eq_some_iff.1 hb).1
theorem Ar.ltM(h:Ar a9 a M a8 a7 w ns):M<w.heap.size:=by
 obtain⟨num,hm,_⟩:=h.map;exact hm.lt
theorem Ar.row(h:Ar a9 a M a8 a7 w ns):∃cur,w.heap[rowOf w a]?=some (.cells cur 144 (0,0)) /\ a9<=rowOf w a /\ rowOf w a<w.heap.size:=by
 obtain⟨g,cap,cs,t,hb,hc,hr⟩:=h.blk;have e:rowOf w a=g:=by simp[rowOf,hb,hc.c2,Value.ownBlock]
 rw[e];rcases hr.2 with⟨hv,_⟩|⟨g',e9,cur,hv,hbase,hg,_⟩
 ·cases hv
 ·simp only[Value.slice.injEq,Option.some.injEq,Addr.mk.injEq,and_true,true_and]at hv;obtain⟨rfl,_⟩:=hv;exact⟨cur,hg,hbase,(Array.getElem?_eq_some_iff.1 hg).1⟩
theorem Ar.ne_row_a(h:Ar a9 a M a8 a7 w ns):rowOf w a≠a:=λe=>by
 obtain⟨cur,hg,_⟩:=h.row;obtain⟨g,cap,cs,t,hb,hc,_⟩:=h.blk;rw[e,hb]at hg;simp only[Option.some.injEq,Obj.cells.injEq]at hg;have e2:=hg.2.1;rcases hc.ty with e1|e1 <;>(rw[e1]at e2;revert e2;decide)
theorem Ar.ne_row_M(h:Ar a9 a M a8 a7 w ns):rowOf w a≠M:=λe=>by
 obtain⟨cur,hg,_⟩:=h.row;obtain⟨num,hm,_⟩:=h.map;obtain⟨es,clock,hb⟩:=hm.isMap;rw[e,hb]at hg;simp at hg
theorem Ar.ne_a_M(h:Ar a9 a M a8 a7 w ns):a≠M:=λe=>by
 obtain⟨num,hm,_⟩:=h.map;obtain⟨es,clock,hb⟩:=hm.isMap;obtain⟨g,cap,cs,t,hb',_⟩:=h.blk;rw[e,hb]at hb';simp at hb'
theorem Ar.same(h:Ar a9 a M a8 a7 w ns)(ha:w'.heap[a]?=w.heap[a]?)(hM:w'.heap[M]?=w.heap[M]?)(hr:w'.heap[rowOf w a]?=w.heap[rowOf w a]?):Ar a9 a M a8 a7 w' ns:=by
 obtain⟨g,cap,cs,t,hb,hc,hrow⟩:=h.blk;have e:rowOf w a=g:=by simp[rowOf,hb,hc.c2,Value.ownBlock]
 rw[e]at hr;refine⟨h.wf,h.le,h.vars1,h.vars16,h.most4,h.lowA,h.lowM,⟨g,cap,cs,t,ha.trans hb,hc,?_⟩,?_⟩
 ·refine⟨hrow.1,?_⟩;rcases hrow.2 with⟨hv,_⟩|⟨g',e9,cur,hv,hbase,hg,rest⟩
  ·cases hv
  ·simp only[Value.slice.injEq,Option.some.injEq,Addr.mk.injEq,and_true,true_and]at hv;obtain⟨rfl,rfl⟩:=hv;exact .inr ⟨g,cap,cur,rfl,hbase,hr.trans hg,rest⟩
 ·obtain⟨num,hm,hn⟩:=h.map;exact⟨num,hm.same hM,hn⟩
theorem Ar.reads(h:Ar a9 a M a8 a7 w ns):∃cap,w.cell? ⟨a,0,none⟩=some (.int .i64 (a8:Int)) /\ w.cell? ⟨a,1,none⟩=some (.int .i64 (a7:Int)) /\
  w.cell? ⟨a,2,none⟩=some (.slice (some ⟨rowOf w a,0,none⟩) ns.length cap) /\ w.cell? ⟨a,3,none⟩=some (.map (some M)) /\ (∀j,w.frozen? ⟨a,j,none⟩=false) /\
  ∀f,f<ns.length->w.cell? ⟨rowOf w a,f*3,none⟩=some (.int .i64 (nv ns f:Int)) /\ w.cell? ⟨rowOf w a,f*3+1,none⟩=some (.int .i64 (nl ns f:Int)) /\ w.cell? ⟨rowOf w a,f*3+2,none⟩=some (.int .i64 (nh ns f:Int)):=by
 obtain⟨g,cap,cs,t,hb,hc,hrow⟩:=h.blk;have e:rowOf w a=g:=by simp[rowOf,hb,hc.c2,Value.ownBlock]
 rw[e];refine⟨cap,?_,?_,?_,?_,?_,?_⟩
 ·rw[cell_of_row w a 0 _ _ _ hb];exact hc.c0
 ·rw[cell_of_row w a 1 _ _ _ hb];exact hc.c1
 ·rw[cell_of_row w a 2 _ _ _ hb];exact hc.c2
 ·rw[cell_of_row w a 3 _ _ _ hb];exact hc.c3
 ·intro j;simp[World.frozen?,hb]
 ·intro f hf;obtain⟨h1,h2,h3⟩:=pQ ns f hf;refine⟨?_,?_,?_⟩
  ·rw[hrow.cellAt _ (by omega),h1]
  ·rw[hrow.cellAt _ (by omega),h2]
  ·rw[hrow.cellAt _ (by omega),h3]
end
structure Cfg where
 a9:Nat
 a:Nat
 b:Nat
 M:Nat
 c1:Option Nat
 c2:Option Nat
 c3:Option Nat
 a8:Nat
 a7:Nat
def Cfg.mine(C:Cfg)(i:Nat):Prop:=i=C.a\/i=C.b\/i=C.M\/C.c1=some i\/C.c2=some i\/C.c3=some i
def gn{k:TypeId}{α:Type}(E:KeyEnc k α)(w:World)(c:Option Nat)(n:Nat)(f:α->Option Nat):Prop:=∀b,c=some b->MapIs E w b n f
structure Bu(C:Cfg)(w:World)(ns:List Nd)(d9:Bool)(N:Nat)(m1:Nd->Option Nat)(m2:Mx->Option Nat)(m3:Nat->Option Nat):Prop where
 ar:Ar C.a9 C.a C.M C.a8 C.a7 w ns
 blk:w.heap[C.b]?=some (.cells #[.pointer (some ⟨C.a,0,none⟩),.bool d9,.map C.c1,.map C.c2,.map C.c3] 231 (0,0))
 lowB:C.a9<=C.b
 o1:gn eM w C.c1 N m1
 o2:gn em w C.c2 N m2
 o3:gn aH w C.c3 N m3
 low1:∀i,C.c1=some i->C.a9<=i /\ i≠C.M /\ C.c2≠some i /\ C.c3≠some i
 low2:∀i,C.c2=some i->C.a9<=i /\ i≠C.M /\ C.c1≠some i /\ C.c3≠some i
 low3:∀i,C.c3=some i->C.a9<=i /\ i≠C.M /\ C.c1≠some i /\ C.c2≠some i
 full_len:d9=true->ns.length=C.a7
structure Kp(C:Cfg)(w w':World):Prop where
 os:w'.os=w.os
 tape:w'.tape=w.tape
 output:w'.output=w.output
 size:w.heap.size<=w'.heap.size
 blk:∀i,i<w.heap.size->¬C.mine i->i≠rowOf w C.a->w'.heap[i]?=w.heap[i]?
 row:rowOf w' C.a=rowOf w C.a\/w.heap.size<=rowOf w' C.a
 post:∀j,4<=j->w'.cell? ⟨C.a,j,none⟩=w.cell? ⟨C.a,j,none⟩
section
variable {C:Cfg}{w w' w'':World}{ns ns':List Nd}{d9 full':Bool}{N N':Nat}{m1 m1':Nd->Option Nat}{m2 m2':Mx->Option Nat}{m3 m3':Nat->Option Nat}
theorem Kp.refl(C:Cfg)(w:World):Kp C w w:=⟨rfl,rfl,rfl,Nat.le_refl _,λ_ _ _ _=>rfl,Or.inl rfl,λ_ _=>rfl⟩
theorem Kp.trans(h:Kp C w w')(k:Kp C w' w''):Kp C w w'':=by
 refine⟨k.os.trans h.os,k.tape.trans h.tape,k.output.trans h.output,Nat.le_trans h.size k.size,λi hi hm hr=>?_,?_,λj hj=>(k.post j hj).trans (h.post j hj)⟩
 ·have h1:=h.size;refine(k.blk i (by omega) hm ?_).trans (h.blk i hi hm hr);rcases h.row with e|e
  ·rw[e];exact hr
  ·omega
 ·have h1:=h.size;rcases k.row with e|e
  ·rw[e];exact h.row
  ·exact Or.inr (by omega)
theorem Kp.drew(h:Kp C w w'):Kp C w w'.drew:=⟨h.os,h.tape,h.output,h.size,h.blk,h.row,h.post⟩
theorem Bu.drew(h:Bu C w ns d9 N m1 m2 m3):Bu C w.drew ns d9 N m1 m2 m3:=⟨h.ar.same rfl rfl rfl,h.blk,h.lowB,h.o1,h.o2,h.o3,h.low1,h.low2,h.low3,h.full_len⟩
theorem Bu.ltb(h:Bu C w ns d9 N m1 m2 m3):C.b<w.heap.size:=(Array.getElem?_eq_some_iff.1 h.blk).1
theorem Bu.ltm(h:Bu C w ns d9 N m1 m2 m3):∀i,C.mine i->i<w.heap.size:=by
 rintro i (rfl|rfl|rfl|e|e|e)
 ·exact h.ar.lta
 ·exact h.ltb
 ·exact h.ar.ltM
 ·exact(h.o1 i e).lt
 ·exact(h.o2 i e).lt
 ·exact(h.o3 i e).lt
theorem Bu.ne_b_a(h:Bu C w ns d9 N m1 m2 m3):C.b≠C.a:=λe=>by
 obtain⟨g,cap,cs,t,hb,hc,_⟩:=h.ar.blk;rw[<- e,h.blk]at hb;simp only[Option.some.injEq,Obj.cells.injEq]at hb;have e2:=hb.2.1;rcases hc.ty with e1|e1 <;>(rw[e1]at e2;revert e2;decide)
theorem Bu.ne_b_row(h:Bu C w ns d9 N m1 m2 m3):C.b≠rowOf w C.a:=λe=>by
 obtain⟨cur,hg,_⟩:=h.ar.row;rw[<- e,h.blk]at hg;simp at hg
theorem Bu.b_noMap(h:Bu C w ns d9 N m1 m2 m3){i:Nat}{es:Array MapEntry}{clock:Nat}(hi:w.heap[i]?=some (.map es clock)):i≠C.b /\ i≠C.a /\ i≠rowOf w C.a:=by
 refine⟨λe=>?_,λe=>?_,λe=>?_⟩
 ·rw[e,h.blk]at hi;simp at hi
 ·obtain⟨g,cap,cs,t,hb,_⟩:=h.ar.blk;rw[e,hb]at hi;simp at hi
 ·obtain⟨cur,hg,_⟩:=h.ar.row;rw[e,hg]at hi;simp at hi
theorem Bu.same(h:Bu C w ns d9 N m1 m2 m3)(hs:∀i,i<w.heap.size->(C.mine i\/i=rowOf w C.a)->w'.heap[i]?=w.heap[i]?):Bu C w' ns d9 N m1 m2 m3:=by
 obtain⟨_,_,_,hrl⟩:=h.ar.row;have L:=h.ltm;refine⟨h.ar.same (hs _ (L _ (Or.inl rfl)) (Or.inl (Or.inl rfl))) (hs _ h.ar.ltM (Or.inl (Or.inr (Or.inr (Or.inl rfl))))) (hs _ hrl (Or.inr rfl)),?_,h.lowB,?_,?_,?_,h.low1,h.low2,h.low3,h.full_len⟩
 ·exact(hs _ h.ltb (Or.inl (Or.inr (Or.inl rfl)))).trans h.blk
 ·exact λi e=>(h.o1 i e).same (hs _ (h.o1 i e).lt (Or.inl (Or.inr (Or.inr (Or.inr (Or.inl e))))))
 ·exact λi e=>(h.o2 i e).same (hs _ (h.o2 i e).lt (Or.inl (Or.inr (Or.inr (Or.inr (Or.inr (Or.inl e)))))))
 ·exact λi e=>(h.o3 i e).same (hs _ (h.o3 i e).lt (Or.inl (Or.inr (Or.inr (Or.inr (Or.inr (Or.inr e)))))))
theorem Bu.alloc(h:Bu C w ns d9 N m1 m2 m3)(o:Obj):Bu C (w.alloc o) ns d9 N m1 m2 m3:=h.same λi hi _=>Below.heap_alloc w o i hi
theorem Bu.kalloc(h:Bu C w ns d9 N m1 m2 m3)(o:Obj):Kp C w (w.alloc o) :=
 ⟨rfl,rfl,rfl,by simp,λi hi _ _=>Below.heap_alloc w o i hi,Or.inl (aQ (Below.heap_alloc w o _ h.ar.lta)),λ_ _=>bJ (Below.heap_alloc w o _ h.ar.lta)⟩
structure Out(C:Cfg)(w:World)(i:Nat):Prop where
 lt:i<w.heap.size
 not:¬C.mine i
 ne:i≠rowOf w C.a
theorem Out.kp{i:Nat}(h:Out C w i)(k:Kp C w w'):Out C w' i:=by
 have h1:=h.lt;have h2:=k.size;refine⟨by omega,h.not,λe=>?_⟩;rcases k.row with r|r
 ·exact h.ne (e.trans r)
 ·omega
structure Loc(C:Cfg)(w:World)(i:Nat)(cs:Array Value)(t:TypeId):Prop where
 out:Out C w i
 blk:w.heap[i]?=some (.cells cs t (0,0))
theorem Loc.kp{i:Nat}{cs:Array Value}{t:TypeId}(h:Loc C w i cs t)(k:Kp C w w'):Loc C w' i cs t:=⟨h.out.kp k,(k.blk i h.out.lt h.out.not h.out.ne).trans h.blk⟩
theorem Loc.drew{i:Nat}{cs:Array Value}{t:TypeId}(h:Loc C w i cs t):Loc C w.drew i cs t:=⟨⟨h.out.lt,h.out.not,h.out.ne⟩,h.blk⟩
theorem Bu.loc(h:Bu C w ns d9 N m1 m2 m3)(cs:Array Value)(t:TypeId):Loc C (w.alloc (.cells cs t)) w.heap.size cs t:=by
 refine⟨⟨by simp,λhm=>Nat.lt_irrefl _ (h.ltm _ hm),λe=>?_⟩,heap_alloc_new w _⟩;rw[aQ (Below.heap_alloc w _ _ h.ar.lta)]at e;obtain⟨_,_,_,hl⟩:=h.ar.row;omega
end
section
variable {C:Cfg}{w:World}{ns:List Nd}{d9:Bool}{N:Nat}{m1:Nd->Option Nat}{m2:Mx->Option Nat}{m3:Nat->Option Nat}
theorem Bu.reads(h:Bu C w ns d9 N m1 m2 m3):w.cell? ⟨C.b,0,none⟩=some (.pointer (some ⟨C.a,0,none⟩)) /\ w.cell? ⟨C.b,1,none⟩=some (.bool d9) /\ w.cell? ⟨C.b,2,none⟩=some (.map C.c1) /\ w.cell? ⟨C.b,3,none⟩=some (.map C.c2) /\
  w.cell? ⟨C.b,4,none⟩=some (.map C.c3) /\ ∀j,w.frozen? ⟨C.b,j,none⟩=false:=by
 have hb:=h.blk;refine⟨?_,?_,?_,?_,?_,?_⟩
 ·rw[cell_of_row w C.b 0 _ _ _ hb];rfl
 ·rw[cell_of_row w C.b 1 _ _ _ hb];rfl
 ·rw[cell_of_row w C.b 2 _ _ _ hb];rfl
 ·rw[cell_of_row w C.b 3 _ _ _ hb];rfl
 ·rw[cell_of_row w C.b 4 _ _ _ hb];rfl
 ·intro j;simp[World.frozen?,hb]
theorem variable_any(h:Bu C w ns d9 N m1 m2 m3){f:Nat}(hf:f<ns.length) :
  CS 201 #[.pointer (some ⟨C.b,0,none⟩),(f:Int)] w (.int .i64 (nv ns f:Int)):=by
 obtain⟨b0,b1,b2,b3,b4,bf⟩:=h.reads;obtain⟨cap,a0,a1,a2,a3,af,an⟩:=h.ar.reads;obtain⟨n0,n1,n2⟩:=an f hf;have hl:ns.length<=40000:=Nat.le_trans h.ar.le h.ar.most4;clear h an;generalize rowOf w C.a=g at *;go_enter func201,ntmps201;go_wp2_with fail;go_ret;exact⟨rfl,rfl⟩
structure At(C:Cfg)(w0 w:World)(ns:List Nd)(d9:Bool)(N:Nat)(m1:Nd->Option Nat)(m2:Mx->Option Nat)(m3:Nat->Option Nat):Prop where
 bu:Bu C w ns d9 N m1 m2 m3
 kp:Kp C w0 w
theorem At.refl(h:Bu C w ns d9 N m1 m2 m3):At C w w ns d9 N m1 m2 m3:=⟨h,Kp.refl C w⟩
variable {w0 w1:World}
theorem At.alloc(h:At C w0 w ns d9 N m1 m2 m3)(o:Obj):At C w0 (w.alloc o) ns d9 N m1 m2 m3:=⟨h.bu.alloc o,h.kp.trans (h.bu.kalloc o)⟩
theorem At.drew(h:At C w0 w ns d9 N m1 m2 m3):At C w0 w.drew ns d9 N m1 m2 m3:=⟨h.bu.drew,h.kp.drew⟩
theorem At.then{ns':List Nd}{full':Bool}{N':Nat}{m1':Nd->Option Nat}{m2':Mx->Option Nat}{m3':Nat->Option Nat}(h:At C w0 w ns d9 N m1 m2 m3)(k:At C w w1 ns' full' N' m1' m2' m3'):At C w0 w1 ns' full' N' m1' m2' m3' :=
 ⟨k.bu,h.kp.trans k.kp⟩
theorem Out.set{i:Nat}(h:Out C w i){p:Addr}(hp:p.block≠C.a)(u:Value):Out C (w.setCell p u) i :=
 ⟨by simpa[World.setCell]using h.lt,h.not,by rw[aQ (Below.heap_setCell w p u C.a hp.symm)];exact h.ne⟩
theorem Out.nea{i:Nat}(h:Out C w i):i≠C.a:=λe=>h.not (Or.inl e)
theorem At.set(h:At C w0 w ns d9 N m1 m2 m3){p:Addr}(ho:Out C w p.block)(hi:w0.heap.size<=p.block)(u:Value):At C w0 (w.setCell p u) ns d9 N m1 m2 m3:=by
 have hr:rowOf (w.setCell p u) C.a=rowOf w C.a:=aQ (Below.heap_setCell w p u C.a ho.nea.symm);refine⟨h.bu.same λj _ hm=>Below.heap_setCell w p u j (λe=>?_),⟨h.kp.os,h.kp.tape,h.kp.output,by simpa[World.setCell]using h.kp.size,λj hj hm hn=>?_,?_,λj hj=>(bJ (Below.heap_setCell w p u C.a ho.nea.symm)).trans (h.kp.post j hj)⟩⟩
 ·rcases hm with hm|hm
  ·exact ho.not (e ▸ hm)
  ·exact ho.ne (e ▸ hm)
 ·rw[Below.heap_setCell w p u j (by omega)];exact h.kp.blk j hj hm hn
 ·rw[hr];exact h.kp.row
def aw(ns:List Nd)(f v:Nat)(val:Bool):Nat:=if nv ns f=v then(if val then nh ns f else nl ns f)else f
theorem zF(h:Bu C w ns d9 N m1 m2 m3){f v:Nat}(val:Bool)(hf:f<ns.length)(hv:v<=16) :
  Cl 224 #[.pointer (some ⟨C.a,0,none⟩),(f:Int),(v:Int),.bool val] w λe w'=>e=.returned (aw ns f v val:Int) /\ At C w w' ns d9 N m1 m2 m3:=by
 have hA:=At.refl h;obtain⟨b0,b1,b2,b3,b4,bf⟩:=h.reads;obtain⟨cap,a0,a1,a2,a3,af,an⟩:=h.ar.reads;obtain⟨n0,n1,n2⟩:=an f hf;have hl:ns.length<=40000:=Nat.le_trans h.ar.le h.ar.most4;have hb3:=hA.alloc (.cells #[(nv ns f:Int),(nl ns f:Int),(nh ns f:Int)] 144);unfold aw;clear h an hA;generalize rowOf w C.a=g at *;by_cases he:nv ns f=v
 ·subst he;cases val
  ·go_enter func224,ntmps224;go_wp2_with fail;go_ret;exact⟨by simp,hb3⟩
  ·go_enter func224,ntmps224;go_wp2_with fail;go_ret;exact⟨by simp,hb3⟩
 ·have he':((nv ns f:Int) !=(v:Int))=true:=by simp;omega
  go_enter func224,ntmps224;go_wp2_with fail;go_ret;exact⟨by simp,hb3⟩
theorem gq(h:Bu C w ns d9 N m1 m2 m3){f v:Nat}(val:Bool)(hf:f<ns.length)(hv:v<=16) :
  Cl 218 #[.pointer (some ⟨C.b,0,none⟩),(f:Int),(v:Int),.bool val] w λe w'=>e=.returned (aw ns f v val:Int) /\ At C w w' ns d9 N m1 m2 m3:=by
 have hp:=zF h val hf hv;obtain⟨b0,b1,b2,b3,b4,bf⟩:=h.reads;clear h;generalize At C w=AA at *;go_enter func218,ntmps218;go_wp2_with fail;refine hp.mono ?_;rintro e w'⟨rfl,hA⟩;dsimp only;go_wp2_with fail;go_ret;exact⟨rfl,hA⟩
theorem answer_any(h:Bu C w ns d9 N m1 m2 m3)(f:Nat) :
  CS 139 #[.pointer (some ⟨C.b,0,none⟩),(f:Int)] w (.tuple #[.int .i64 ((if d9 then 0 else f:Nat):Int),.int .i64 (if d9 then 6 else 0)]):=by
 obtain⟨b0,b1,b2,b3,b4,bf⟩:=h.reads;clear h;cases d9
 ·go_enter func139,ntmps139;go_wp2_with fail;go_ret2;exact⟨rfl,rfl⟩
 ·go_enter func139,ntmps139;go_wp2_with fail;go_ret2;exact⟨rfl,rfl⟩
end
section
variable {a9 a M a8 a7:Nat}{w:World}{ns:List Nd}
theorem di(h:Ar a9 a M a8 a7 w ns)(f:Int) :
  CS 84 #[.pointer a,f] w (.bool (decide (0<=f)&&decide (f<ns.length))):=by
 obtain⟨cap,a0,a1,a2,a3,af,an⟩:=h.reads;clear h an;by_cases h0:0<=f
 ·go_enter func84,ntmps84;go_wp2_with fail;go_ret;exact⟨by simp[h0],rfl⟩
 ·have h0':decide (0<=f)=false:=by simp;omega
  go_enter func84,ntmps84;go_wp2_with fail;go_ret;exact⟨by simp,rfl⟩
theorem hasVariable_any(h:Ar a9 a M a8 a7 w ns)(i:Int) :
  CS 158 #[.pointer a,i] w (.bool (decide (0<=i)&&decide (i<a8))):=by
 obtain⟨cap,a0,a1,a2,a3,af,an⟩:=h.reads;clear h an;by_cases h0:0<=i
 ·go_enter func158,ntmps158;go_wp2_with fail;go_ret;exact⟨by simp[h0],rfl⟩
 ·have h0':decide (0<=i)=false:=by simp;omega
  go_enter func158,ntmps158;go_wp2_with fail;go_ret;exact⟨by simp,rfl⟩
end
section
variable {C:Cfg}{w:World}{ns:List Nd}{d9:Bool}{N:Nat}{m1:Nd->Option Nat}{m2:Mx->Option Nat}{m3:Nat->Option Nat}
theorem zG(h:Bu C w ns d9 N m1 m2 m3){v l:Nat} :
  Cl 160 #[.pointer (some ⟨C.b,0,none⟩),aU (v,l,l)] w λe w'=>e=.returned (l:Int) /\ At C w w' ns d9 N m1 m2 m3:=by
 have hA:=(At.refl h).alloc (.cells #[(v:Int),(l:Int),(l:Int)] 144);obtain⟨b0,b1,b2,b3,b4,bf⟩:=h.reads;have lb:=h.ltb;clear h;go_enter func160,ntmps160;go_wp2_with fail;go_ret;exact⟨rfl,hA⟩
theorem zH(h:Bu C w ns d9 N m1 m2 m3){v l u f:Nat}(hne:l≠u)(ho:ok3 (v,l,u))(h2:2<=f)(hf:f<ns.length)(hn:nd ns f=(v,l,u)) :
  Cl 160 #[.pointer (some ⟨C.b,0,none⟩),aU (v,l,u)] w λe w'=>e=.returned (f:Int) /\ At C w w' ns d9 N m1 m2 m3:=by
 have hA:=((At.refl h).alloc (.cells #[(v:Int),(l:Int),(u:Int)] 144)).drew;obtain⟨b0,b1,b2,b3,b4,bf⟩:=h.reads;obtain⟨cap,a0,a1,a2,a3,af,an⟩:=h.ar.reads;have lb:=h.ltb;have la:=h.ar.lta;obtain⟨num,hm,hk⟩:=hA.bu.ar.map;have hlook:=hm.look tz1 (x:=(v,l,u)) ho;rw[(hk (v,l,u) f).2 ⟨h2,hf,hn⟩]at hlook;simp only[fJ,Option.getD_some,Option.isSome_some]at hlook;have hne':((l:Int) ==(u:Int))=false:=by simp;omega
 clear h an hm hk;go_enter func160,ntmps160;go_wp2_with fail;go_region;all_goals
  go_wp2_with fail;go_ret;exact⟨rfl,hA⟩
theorem At.setFull{w0:World}(h:At C w0 w ns d9 N m1 m2 m3)(hl:ns.length=C.a7):At C w0 (w.setCell ⟨C.b,1,none⟩ (.bool true)) ns true N m1 m2 m3:=by
 have hb:=h.bu;have ho:∀k,k≠C.b->(w.setCell ⟨C.b,1,none⟩ (.bool true)).heap[k]?=w.heap[k]?:=λk hk=>Below.heap_setCell w _ _ k hk;have hbl:=heap_setCell_same w C.b 1 _ _ (.bool true) hb.blk;have noM:∀{i},(∃es clock,w.heap[i]?=some (.map es clock))->i≠C.b:=λ{i} hi=>by
  obtain⟨es,clock,hi⟩:=hi;exact(hb.b_noMap hi).1
 obtain⟨num,hM,_⟩:=hb.ar.map;have hr:rowOf (w.setCell ⟨C.b,1,none⟩ (.bool true)) C.a=rowOf w C.a:=aQ (ho _ hb.ne_b_a.symm);refine⟨⟨hb.ar.same (ho _ hb.ne_b_a.symm) (ho _ (noM hM.isMap)) (ho _ hb.ne_b_row.symm),?_,hb.lowB,?_,?_,?_,hb.low1,hb.low2,hb.low3,λ_=>hl⟩,?_⟩
 ·rw[hbl];rfl
 ·exact λi e=>(hb.o1 i e).same (ho _ (noM (hb.o1 i e).isMap))
 ·exact λi e=>(hb.o2 i e).same (ho _ (noM (hb.o2 i e).isMap))
 ·exact λi e=>(hb.o3 i e).same (ho _ (noM (hb.o3 i e).isMap))
 ·refine⟨h.kp.os,h.kp.tape,h.kp.output,by simpa[World.setCell]using h.kp.size,λi hi hm hn=>?_,?_,λj hj=>(bJ (ho _ hb.ne_b_a.symm)).trans (h.kp.post j hj)⟩
  ·rw[ho i (λe=>hm (Or.inr (Or.inl e)))];exact h.kp.blk i hi hm hn
  ·rw[hr];exact h.kp.row
theorem zI(h:Bu C w ns d9 N m1 m2 m3){v l u:Nat}(hne:l≠u)(ho:ok3 (v,l,u))(hn:∀f,2<=f->f<ns.length->nd ns f≠(v,l,u))(hl:ns.length=C.a7) :
  Cl 160 #[.pointer (some ⟨C.b,0,none⟩),aU (v,l,u)] w λe w'=>e=.returned (.int .i64 0) /\ At C w w' ns true N m1 m2 m3:=by
 have hA:=((At.refl h).alloc (.cells #[(v:Int),(l:Int),(u:Int)] 144)).drew;obtain⟨b0,b1,b2,b3,b4,bf⟩:=h.reads;obtain⟨cap,a0,a1,a2,a3,af,an⟩:=h.ar.reads;have lb:=h.ltb;have la:=h.ar.lta;obtain⟨num,hm,hk⟩:=hA.bu.ar.map;have hlook:=hm.look tz1 (x:=(v,l,u)) ho;have hnone:num (v,l,u)=none:=by
  cases hx:num (v,l,u)with
  | none=>rfl
  | some f=>obtain⟨q1,q2,q3⟩:=(hk _ _).1 hx;exact(hn f q1 q2 q3).elim
 rw[hnone]at hlook;simp only[fJ,Option.getD_none,Option.isSome_none]at hlook;have hne':((l:Int) ==(u:Int))=false:=by simp;omega
 have hF:=((((At.refl h).setFull hl).alloc (.cells #[(v:Int),(l:Int),(u:Int)] 144)).drew).drew;have hge:decide ((C.a7:Int)<=(ns.length:Int))=true:=by simp;omega
 clear h an hm hk hnone hn;go_enter func160,ntmps160;go_wp2_with fail;go_region;all_goals
  go_wp2_with fail;go_region;all_goals
   go_wp2_with fail;go_ret;exact⟨rfl,hF⟩
theorem tz11:(prog.info? 144).map (λi=>(i.zero,i.size,i.bytes))=some (some (.agg #[.int .i64 0,.int .i64 0,.int .i64 0]),3,24):=by kernel_rfl
theorem Ar.owns{a9 a M a8 a7:Nat}(h:Ar a9 a M a8 a7 w ns):∃cap,w.cell? ⟨a,2,none⟩=some (.slice (some ⟨rowOf w a,0,none⟩) ns.length cap) /\ w.ownsRow a9 144 3 (.slice (some ⟨rowOf w a,0,none⟩) ns.length cap) ns.length (bV ns):=by
 obtain⟨g,cap,cs,t,hb,hc,hr⟩:=h.blk;have e:rowOf w a=g:=by simp[rowOf,hb,hc.c2,Value.ownBlock]
 rw[e];exact⟨cap,by rw[cell_of_row w a 2 _ _ _ hb];exact hc.c2,hr⟩
theorem zJ{n:Nd}{num:Nd->Option Nat}(h:jF ns num)(hnew:∀f,2<=f->f<ns.length->nd ns f≠n)(h2:2<=ns.length):jF (ns++[n]) (upd num n ns.length):=by
 intro m f;have X:Ext ns (ns++[n]):=⟨[n],rfl⟩;have last:nd (ns++[n]) ns.length=n:=by simp[nd]
 have len':(ns++[n]).length=ns.length+1:=by simp
 unfold upd;by_cases e:m=n
 ·subst e;rw[if_pos rfl];constructor
  ·intro hf;obtain rfl:ns.length=f:=by simpa using hf
   exact⟨h2,by omega,last⟩
  ·rintro⟨f2,fl,hf⟩;by_cases hl:f<ns.length
   ·rw[X.nd hl]at hf;exact(hnew f f2 hl hf).elim
   ·rw[show f=ns.length by omega]
 ·rw[if_neg e,h m f];constructor
  ·rintro⟨f2,fl,hf⟩;exact⟨f2,by omega,by rw[X.nd fl];exact hf⟩
  ·rintro⟨f2,fl,hf⟩;by_cases hl:f<ns.length
   ·rw[X.nd hl]at hf;exact⟨f2,hl,hf⟩
   ·obtain rfl:f=ns.length:=by omega
    rw[last]at hf;exact(e hf.symm).elim
theorem At.grow{w0 w3 w5:World}{n:Nd}{g g' e9:Nat}(h:At C w0 w ns false N m1 m2 m3)(hg:rowOf w C.a=g)(hlt:ns.length<C.a7)(hwf:Wf C.a8 (ns++[n]))
  (hown:w3.ownsRow C.a9 144 3 (.slice g' (ns.length+1) e9) (ns.length+1) (bV ns++[.int .i64 (n.1:Int),.int .i64 (n.2.1:Int),.int .i64 (n.2.2:Int)]))
  (hgrow:w.grownBy w3 (some g)) (hat:g=g'\/g'=w.heap.size) {num:Nd->Option Nat} (hnum:jF ns num) (hnew:∀f,2<=f->f<ns.length->nd ns f≠n)
  (hM:MapIs fJ w5 C.M (ns.length+1) (upd num n ns.length)) (hg5:(w3.setCell ⟨C.a,2,none⟩ (.slice g' (ns.length+1) e9)).drew.grownBy w5 (some C.M)) :
  At C w0 w5 (ns++[n]) false N m1 m2 m3:=by
 subst hg;have hb:=h.bu;have la:=hb.ar.lta;have lM:=hb.ar.ltM;have ra:=hb.ar.ne_row_a;have rM:=hb.ar.ne_row_M;have aM:=hb.ar.ne_a_M;obtain⟨_,_,_,rl⟩:=hb.ar.row;have sz3:=hgrow.size;have sz5:=hg5.size;simp only[heap_drew,World.size_setCell]at sz5;have ga:g'≠C.a:=by rcases hat with e|e <;> omega
 have gM:g'≠C.M:=by rcases hat with e|e <;> omega
 have to5:∀i,i<w.heap.size->i≠rowOf w C.a->i≠C.a->i≠C.M->w5.heap[i]?=w.heap[i]?:=λi hi h1 h2 h3=>by
  rw[hg5.block i (by simp;omega) (by simpa using h3),heap_drew,Below.heap_setCell _ _ _ _ h2,hgrow.block i hi (by simpa using h1)]
 obtain⟨q,cap,cs0,t0,hbl,hc0,hrow⟩:=hb.ar.blk;have hbl5:w5.heap[C.a]?=some (.cells (cs0.setIfInBounds 2 (.slice g' (ns++[n]).length e9)) t0 (0,0)):=by
  rw[hg5.block C.a (by simp;omega) (by simpa using aM),heap_drew,heap_setCell_same w3 C.a 2 _ _ _ ((hgrow.block C.a la (by simpa using ra.symm)).trans hbl)];simp
 have l4:3<cs0.size:=(Array.getElem?_eq_some_iff.1 hc0.c3).1;have hc5:ArC C.a8 C.a7 g' (ns++[n]).length e9 C.M (cs0.setIfInBounds 2 (.slice g' (ns++[n]).length e9)) t0 :=
  ⟨by rw[Array.getElem?_setIfInBounds];simpa using hc0.c0,by rw[Array.getElem?_setIfInBounds];simpa using hc0.c1,by rw[Array.getElem?_setIfInBounds,if_pos rfl,if_pos (by omega)],by rw[Array.getElem?_setIfInBounds];simpa using hc0.c3,hc0.ty⟩
 have row5:rowOf w5 C.a=g':=by simp only[rowOf,hbl5,hc5.c2];rfl
 have hown5:w5.ownsRow C.a9 144 3 (.slice g' (ns++[n]).length e9) (ns++[n]).length (bV (ns++[n])):=by
  rw[zE,show(ns++[n]).length=ns.length+1 by simp,show bV [n]=[.int .i64 (n.1:Int),.int .i64 (n.2.1:Int),.int .i64 (n.2.2:Int)]from rfl];refine⟨hown.1,?_⟩;rcases hown.2 with⟨hv,_⟩|⟨g2,cap2,cur,hv,hbase,hg2,rest⟩
  ·cases hv
  ·simp only[Value.slice.injEq,Option.some.injEq,Addr.mk.injEq,and_true,true_and]at hv;obtain⟨rfl,rfl⟩:=hv;have l3:=(Array.getElem?_eq_some_iff.1 hg2).1;refine .inr ⟨g',e9,cur,rfl,hbase,?_,rest⟩;rw[hg5.block g' (by simpa using l3) (by simpa using gM),heap_drew,Below.heap_setCell _ _ _ _ ga];exact hg2
 refine⟨⟨⟨hwf,by simp;omega,hb.ar.vars1,hb.ar.vars16,hb.ar.most4,hb.ar.lowA,hb.ar.lowM,⟨g',e9,_,_,hbl5,hc5,hown5⟩,⟨_,by simpa using hM,zJ hnum hnew hb.ar.wf.len⟩⟩,?_,hb.lowB,?_,?_,?_,hb.low1,hb.low2,hb.low3,λe=>by cases e⟩,h.kp.trans ?_⟩
 ·rw[to5 C.b hb.ltb hb.ne_b_row hb.ne_b_a (λe=>by obtain⟨num,hm,_⟩:=hb.ar.map;obtain⟨es,clock,hm⟩:=hm.isMap;exact(hb.b_noMap hm).1 e.symm)];exact hb.blk
 ·intro i e;obtain⟨es,clock,hm⟩:=(hb.o1 i e).isMap;obtain⟨_,k1,k2⟩:=hb.b_noMap hm;exact(hb.o1 i e).same (to5 i (hb.o1 i e).lt k2 k1 (hb.low1 i e).2.1)
 ·intro i e;obtain⟨es,clock,hm⟩:=(hb.o2 i e).isMap;obtain⟨_,k1,k2⟩:=hb.b_noMap hm;exact(hb.o2 i e).same (to5 i (hb.o2 i e).lt k2 k1 (hb.low2 i e).2.1)
 ·intro i e;obtain⟨es,clock,hm⟩:=(hb.o3 i e).isMap;obtain⟨_,k1,k2⟩:=hb.b_noMap hm;exact(hb.o3 i e).same (to5 i (hb.o3 i e).lt k2 k1 (hb.low3 i e).2.1)
 ·refine⟨hg5.os.trans hgrow.os,hg5.tape.trans hgrow.tape,hg5.output.trans hgrow.output,by omega,λi hi hm hr=>to5 i hi hr (λe=>hm (Or.inl e)) (λe=>hm (Or.inr (Or.inr (Or.inl e)))),?_,λj hj=>by
   have hne:¬ 2=j:=by omega
   simp[World.cell?,hbl5,hbl,hne]⟩
  rw[row5];rcases hat with e|e
  ·exact Or.inl e.symm
  ·exact Or.inr (by omega)
theorem zK(h:Bu C w ns false N m1 m2 m3){v l u:Nat}(hne:l≠u)(ho:ok3 (v,l,u))(hn:∀f,2<=f->f<ns.length->nd ns f≠(v,l,u))(hl:ns.length<C.a7)(hwf:Wf C.a8 (ns++[(v,l,u)])) :
  Cl 160 #[.pointer (some ⟨C.b,0,none⟩),aU (v,l,u)] w λe w'=>e=.returned (ns.length:Int) /\ At C w w' (ns++[(v,l,u)]) false N m1 m2 m3:=by
 have hA:=((At.refl h).alloc (.cells #[(v:Int),(l:Int),(u:Int)] 144)).drew;obtain⟨b0,b1,b2,b3,b4,bf⟩:=h.reads;obtain⟨cap,a0,a1,a2,a3,af,an⟩:=h.ar.reads;have lb:=h.ltb;have la:=h.ar.lta;obtain⟨num,hm,hk⟩:=hA.bu.ar.map;have hlook:=hm.look tz1 (x:=(v,l,u)) ho;have hnone:num (v,l,u)=none:=by
  cases hx:num (v,l,u)with
  | none=>rfl
  | some f=>obtain⟨q1,q2,q3⟩:=(hk _ _).1 hx;exact(hn f q1 q2 q3).elim
 rw[hnone]at hlook;simp only[fJ,Option.getD_none,Option.isSome_none]at hlook;have hne':((l:Int) ==(u:Int))=false:=by simp;omega
 have hge:decide ((C.a7:Int)<=(ns.length:Int))=false:=by simp;omega
 have hl4:ns.length<=40000:=Nat.le_trans h.ar.le h.ar.most4;obtain⟨i0,hi,hz0,hz1,hz2⟩:=info_parts tz11;clear a2 cap;obtain⟨cap,a2,hown⟩:=h.ar.owns;have rl:=h.ar.row;have nra:=h.ar.ne_row_a;have hlow:=h.ar.lowA;have hA2:=((hA.alloc (.cells #[(v:Int),(l:Int),(u:Int)] 144)).drew).drew;have rM:=h.ar.ne_row_M;have aM:=h.ar.ne_a_M;have lM:=h.ar.ltM;have hkeep:∀g' e9 w3,(((w.alloc (.cells #[(v:Int),(l:Int),(u:Int)] 144)).alloc (.cells #[(v:Int),(l:Int),(u:Int)] 144)).drew.drew.drew).grownBy w3 (some (rowOf w C.a))->(some (rowOf w C.a)=some g'\/g'=(((w.alloc (.cells #[(v:Int),(l:Int),(u:Int)] 144)).alloc (.cells #[(v:Int),(l:Int),(u:Int)] 144)).drew.drew.drew).heap.size) ->
   w3.ownsRow C.a9 144 3 (.slice g' (ns.length+1) e9) (ns.length+1) (bV ns++[.int .i64 (v:Int),.int .i64 (l:Int),.int .i64 (u:Int)])->∃w5,
   w3.cell? ⟨C.a,2,none⟩=some (.slice (some ⟨rowOf w C.a,0,none⟩) ns.length cap) /\ w3.cell? ⟨C.a,3,none⟩=some (.map (some C.M)) /\
   (w3.setCell ⟨C.a,2,none⟩ (.slice g' (ns.length+1) e9)).cell? ⟨w,0,none⟩=some (.int .i64 (v:Int)) /\ (w3.setCell ⟨C.a,2,none⟩ (.slice g' (ns.length+1) e9)).cell? ⟨w,1,none⟩=some (.int .i64 (l:Int)) /\ (w3.setCell ⟨C.a,2,none⟩ (.slice g' (ns.length+1) e9)).cell? ⟨w,2,none⟩=some (.int .i64 (u:Int)) /\ w3.frozen? ⟨C.a,2,none⟩=false /\
   (Instr.mapUpdate 80 (.map (some C.M)) (aU (v,l,u)) (.int .i64 (ns.length:Int))).run prog (w3.setCell ⟨C.a,2,none⟩ (.slice g' (ns.length+1) e9)).drew=.ok () w5 /\ At C w w5 (ns++[(v,l,u)]) false N m1 m2 m3:=by
  intro g' e9 w3 hg hat hown3;obtain⟨_,_,_,rl⟩:=rl;have hm3:MapIs fJ (w3.setCell ⟨C.a,2,none⟩ (.slice g' (ns.length+1) e9)).drew C.M ns.length num:=by
   refine hm.same ?_;rw[heap_drew,Below.heap_setCell _ _ _ _ (λe=>aM e.symm),hg.block C.M (by simp;omega) (by simpa using rM.symm),heap_drew,heap_drew,heap_drew,heap_drew,Below.heap_alloc _ _ _ (by simp;omega)]
  obtain⟨w5,hrun,hM5,hg5⟩:=hm3.store tz1 (by unfold maxLen;omega) (x:=(v,l,u)) ho (v:=ns.length) (by omega);have hr2:rowOf (((w.alloc (.cells #[(v:Int),(l:Int),(u:Int)] 144)).alloc (.cells #[(v:Int),(l:Int),(u:Int)] 144)).drew.drew.drew) C.a=rowOf w C.a:=by
   refine aQ ?_;rw[heap_drew,heap_drew,heap_drew,Below.heap_alloc _ _ _ (by simp;omega),Below.heap_alloc _ _ _ la]
  have hfin:=hA2.grow hr2 hl hwf hown3 hg (by simpa using hat) hk hn hM5 hg5;refine⟨w5,?_,?_,?_,?_,?_,?_,hrun,hfin⟩
  ·rw[hg.cell_far ⟨C.a,2,none⟩ (by simp;omega) (by simp;omega)];simp[*,World.cell?_alloc_some]
  ·rw[hg.cell_far ⟨C.a,3,none⟩ (by simp;omega) (by simp;omega)];simp[*,World.cell?_alloc_some]
  ·rw[World.cell?_of_block (Below.heap_setCell _ _ _ _ (by simp;omega)),hg.cell_far ⟨w,0,none⟩ (by simp;omega) (by simp;omega)];simp[*,World.cell?_alloc_some]
  ·rw[World.cell?_of_block (Below.heap_setCell _ _ _ _ (by simp;omega)),hg.cell_far ⟨w,1,none⟩ (by simp;omega) (by simp;omega)];simp[*,World.cell?_alloc_some]
  ·rw[World.cell?_of_block (Below.heap_setCell _ _ _ _ (by simp;omega)),hg.cell_far ⟨w,2,none⟩ (by simp;omega) (by simp;omega)];simp[*,World.cell?_alloc_some]
  ·rw[hg.frozen_far ⟨C.a,2,none⟩ (by simp;omega) (by simp;omega)];simp[*,frozen?_alloc_cells]
 have own2:(((w.alloc (.cells #[(v:Int),(l:Int),(u:Int)] 144)).alloc (.cells #[(v:Int),(l:Int),(u:Int)] 144)).drew.drew.drew).ownsRow C.a9 144 3 (.slice (some ⟨rowOf w C.a,0,none⟩) ns.length cap) ns.length (bV ns):=(hown.alloc _).alloc _;have news:∀j x,[Value.int .i64 (v:Int),.int .i64 (l:Int),.int .i64 (u:Int)][j]?=some x->(((w.alloc (.cells #[(v:Int),(l:Int),(u:Int)] 144)).alloc (.cells #[(v:Int),(l:Int),(u:Int)] 144)).drew.drew.drew).cell? ((⟨w.heap.size+1,0,none⟩:Addr).add j)=some x :=
  World.news_of_block (w:=(((w.alloc (.cells #[(v:Int),(l:Int),(u:Int)] 144)).alloc (.cells #[(v:Int),(l:Int),(u:Int)] 144)).drew.drew.drew)) (B:=w.heap.size+1) (cs:=#[.int .i64 (v:Int),.int .i64 (l:Int),.int .i64 (u:Int)]) (t:=144) (fr:=(0,0)) (by rw[heap_drew,heap_drew,heap_drew,show w.heap.size+1=(w.alloc (.cells #[(v:Int),(l:Int),(u:Int)] 144)).heap.size by simp];exact Go.heap_alloc_new _ _)
 have one:∀x∈[Value.int .i64 (v:Int),.int .i64 (l:Int),.int .i64 (u:Int)],x.oneCell'=true:=by simp[Value.oneCell']
 have s1:ns.length+1<=maxLen:=by unfold maxLen;omega
 have s2:(ns.length+1)*24<=140737488355328:=by omega
 have s3:C.a9<=(((w.alloc (.cells #[(v:Int),(l:Int),(u:Int)] 144)).alloc (.cells #[(v:Int),(l:Int),(u:Int)] 144)).drew.drew.drew).heap.size:=by simp;omega
 clear h an hnone hn;go_enter func160,ntmps160;go_wp2_with fail;go_region;all_goals
  go_wp2_with fail;go_region;all_goals
   go_wp2_with fail
   go_region_law (refine step_append_lies _ rfl _ _ 79 rfl C.a9 144 i0 _ 3 24 tz5 hi hz0 hz1 hz2 rfl (by decide) _ ns.length (bV ns) rfl own2 ⟨w.heap.size+1,0,none⟩ 1 1 [.int .i64 (v:Int),.int .i64 (l:Int),.int .i64 (u:Int)] rfl rfl news one (by decide) s1 s2 s3 _ rfl ?_;intro g' e9 w3 hown3 hgrow3 hat3 hlt3;obtain⟨w5,k1,k2,k3,k4,k5,k6,hrun,hfin⟩:=hkeep g' e9 w3 hgrow3 hat3 hown3;clear hown3 hgrow3 hat3 hlt3)
   all_goals
    go_wp2_with fail;go_region;all_goals
     go_wp2_with fail;go_ret;exact⟨rfl,hfin⟩
theorem numberOf_any(h:Bu C w ns d9 N m1 m2 m3){v l u:Nat}(hv:v<C.a8)(hl:l<ns.length)(hu:u<ns.length)(hord:d9=false->v<nv ns l /\ v<nv ns u) :
  Cl 160 #[.pointer (some ⟨C.b,0,none⟩),aU (v,l,u)] w λe w'=>∃f ns' full',e=.returned (.int .i64 ((f:Nat):Int)) /\ At C w w' ns' full' N m1 m2 m3 /\ Ext ns ns' /\ ns'.length<=ns.length+1 /\ f<ns'.length /\
   (d9=true->full'=true) /\ (full'=false->IsNode ns' v l u f):=by
 have hlen:ns.length<=40000:=Nat.le_trans h.ar.le h.ar.most4;have hv16:=h.ar.vars16;have ho:ok3 (v,l,u):=⟨by show v<_;omega,by show l<_;omega,by show u<_;omega⟩;have h2:=h.ar.wf.len;by_cases hne:l=u
 ·subst hne;refine(zG h).mono ?_;rintro e w'⟨rfl,hA⟩;exact⟨l,ns,d9,rfl,hA,Ext.refl _,by omega,hl,id,λhf=>zC hl (hord hf).1⟩
 ·by_cases hex:∃f,2<=f /\ f<ns.length /\ nd ns f=(v,l,u)
  ·obtain⟨f,f2,fl,fn⟩:=hex;refine(zH h hne ho f2 fl fn).mono ?_;rintro e w'⟨rfl,hA⟩;exact⟨f,ns,d9,rfl,hA,Ext.refl _,by omega,fl,id,λ_=>pO h.ar.wf f2 fl fn⟩
  ·have hn:∀f,2<=f->f<ns.length->nd ns f≠(v,l,u):=λf f2 fl fn=>hex ⟨f,f2,fl,fn⟩;by_cases hm:ns.length=C.a7
   ·refine(zI h hne ho hn hm).mono ?_;rintro e w'⟨rfl,hA⟩;exact⟨0,ns,true,rfl,hA,Ext.refl _,by omega,by omega,λ_=>rfl,λe=>by cases e⟩
   ·have hle:=h.ar.le;obtain rfl:d9=false:=by
     cases d9
     ·rfl
     ·exact(hm (h.full_len rfl)).elim
    have hwf:=zy h.ar.wf (n:=(v,l,u)) hv hl hu hne (hord rfl).1 (hord rfl).2 hn;refine(zK h hne ho hn (by omega) hwf).mono ?_;rintro e w'⟨rfl,hA⟩;have X:Ext ns (ns++[(v,l,u)]):=⟨_,rfl⟩;refine⟨ns.length,_,false,rfl,hA,X,by simp,by simp,(λe=>by cases e),λ_=>pO hwf h2 (by simp) (by simp[nd])⟩
end
section
variable {C:Cfg}{w:World}{ns:List Nd}{d9:Bool}{N:Nat}{m1:Nd->Option Nat}{m2:Mx->Option Nat}{m3:Nat->Option Nat}
theorem Loc.reads{i:Nat}{x y z:Value}{t:TypeId}(h:Loc C w i #[x,y,z] t) :
  (w.cell? ⟨i,0,none⟩=some x /\ w.cell? ⟨i,1,none⟩=some y /\ w.cell? ⟨i,2,none⟩=some z) /\ w.frozen? ⟨i,0,none⟩=false /\ w.frozen? ⟨i,1,none⟩=false /\ w.frozen? ⟨i,2,none⟩=false:=by
 have hb:=h.blk;refine⟨⟨?_,?_,?_⟩,?_,?_,?_⟩
 ·rw[cell_of_row w i 0 _ _ _ hb];rfl
 ·rw[cell_of_row w i 1 _ _ _ hb];rfl
 ·rw[cell_of_row w i 2 _ _ _ hb];rfl
 ·simp[World.frozen?,hb]
 ·simp[World.frozen?,hb]
 ·simp[World.frozen?,hb]
theorem Loc.set{i j:Nat}{cs:Array Value}{t:TypeId}(h:Loc C w i cs t)(u:Value):Loc C (w.setCell ⟨i,j,none⟩ u) i (cs.setIfInBounds j u) t :=
 ⟨h.out.set (p:=⟨i,j,none⟩) h.out.nea u,heap_setCell_same w i j cs t u h.blk⟩
theorem Loc.setOther{i k j:Nat}{cs:Array Value}{t:TypeId}(h:Loc C w i cs t)(hk:Out C w k)(hne:i≠k)(u:Value):Loc C (w.setCell ⟨k,j,none⟩ u) i cs t :=
 ⟨h.out.set (p:=⟨k,j,none⟩) hk.nea u,(Below.heap_setCell w _ u i hne).trans h.blk⟩
theorem Loc.alloc{i:Nat}{cs:Array Value}{t:TypeId}(h:Loc C w i cs t)(hb:Bu C w ns d9 N m1 m2 m3)(o:Obj):Loc C (w.alloc o) i cs t:=h.kp (hb.kalloc o)
theorem At.loc{w0:World}(h:At C w0 w ns d9 N m1 m2 m3)(cs:Array Value)(t:TypeId):Loc C (w.alloc (.cells cs t)) w.heap.size cs t:=h.bu.loc cs t
theorem At.store3{w0:World}{i:Nat}{a b c:Value}{t:TypeId}(h:At C w0 w ns d9 N m1 m2 m3)(L:Loc C w i #[a,b,c] t)(hi:w0.heap.size<=i)(x y z:Value) :
  At C w0 (((w.setCell ⟨i,0,none⟩ x).setCell ⟨i,1,none⟩ y).setCell ⟨i,2,none⟩ z) ns d9 N m1 m2 m3 /\ Loc C (((w.setCell ⟨i,0,none⟩ x).setCell ⟨i,1,none⟩ y).setCell ⟨i,2,none⟩ z) i #[x,y,z] t:=by
 have L1:=L.set (j:=0) x;have L2:=L1.set (j:=1) y;have L3:=L2.set (j:=2) z;refine⟨((h.set (p:=⟨i,0,none⟩) L.out hi x).set (p:=⟨i,1,none⟩) L1.out hi y).set (p:=⟨i,2,none⟩) L2.out hi z,?_⟩;simpa using L3
theorem pR(h:Bu C w ns d9 N m1 m2 m3){c:Nd}{v:Nat}(val:Bool)(h1:c.1<ns.length)(h2:c.2.1<ns.length)(h3:c.2.2<ns.length)(hv:v<=16) :
  Cl 202 #[.pointer (some ⟨C.b,0,none⟩),aU c,(v:Int),.bool val] w λe w'=>e=.returned (aU (aw ns c.1 v val,aw ns c.2.1 v val,aw ns c.2.2 v val)) /\ At C w w' ns d9 N m1 m2 m3:=by
 obtain⟨x,y,z⟩:=c;simp only[]at h1 h2 h3;have hA0:=(At.refl h).alloc (.cells #[(x:Int),(y:Int),(z:Int)] 249);have L0:=h.loc #[(x:Int),(y:Int),(z:Int)] 249;have hA:=(hA0.alloc (.cells #[.int .i64 0,.int .i64 0,.int .i64 0] 249)).drew;have L1:=(L0.alloc hA0.bu (.cells #[.int .i64 0,.int .i64 0,.int .i64 0] 249)).drew;have L2:=(hA0.loc #[.int .i64 0,.int .i64 0,.int .i64 0] 249).drew;rw[show(w.alloc (.cells #[(x:Int),(y:Int),(z:Int)] 249)).heap.size=w.heap.size+1 by simp]at L2;clear L0 hA0 h;obtain⟨⟨q0,q1,q2⟩,_⟩:=L1.reads;go_enter func202,ntmps202;go_wp2_with fail;go_region_held3 (λw'=>w'.cell? ⟨w,0,none⟩=some (.int .i64 (x:Int)) /\ w'.cell? ⟨w,1,none⟩=some (.int .i64 (y:Int)) /\ w'.cell? ⟨w,2,none⟩=some (.int .i64 (z:Int))) (go_keep)
  (first|(go_at_call 218;refine(gq (At.bu (w0:=w) ‹_›) val ‹_› hv).mono ?_;rintro e wn⟨rfl,hn⟩;have hA':=At.then (w0:=w) ‹_› hn;have L1':=Loc.kp (i:=w.heap.size) ‹_› hn.kp;have L2':=Loc.kp (i:=w.heap.size+1) ‹_› hn.kp;obtain⟨⟨q0',q1',q2'⟩,_⟩:=L1'.reads;obtain⟨_,p0',p1',p2'⟩:=L2'.reads))
 obtain⟨hF,LF⟩:=At.store3 hA' L2' (Nat.le_succ _) (.int .i64 (aw ns x v val:Int)) (.int .i64 (aw ns y v val:Int)) (.int .i64 (aw ns z v val:Int));obtain⟨⟨r0,r1,r2⟩,_⟩:=LF.reads;go_wp2_with fail;refine bodyPost_ret (v:=aU (aw ns x v val,aw ns y v val,aw ns z v val)) (by simp[results,results202,go_sem,r0,r1,r2]) rfl ⟨rfl,hF⟩
theorem pS(h:Bu C w ns d9 N m1 m2 m3){c:Mx}{v:Nat}(val:Bool)(h1:c.1<ns.length)(h2:c.2.1<ns.length)(hv:v<=16) :
  Cl 227 #[.pointer (some ⟨C.b,0,none⟩),cF c,(v:Int),.bool val] w λe w'=>e=.returned (cF (aw ns c.1 v val,aw ns c.2.1 v val,c.2.2)) /\ At C w w' ns d9 N m1 m2 m3:=by
 obtain⟨x,y,z⟩:=c;simp only[]at h1 h2;have hA0:=(At.refl h).alloc (.cells #[(x:Int),(y:Int),.bool z] 296);have L0:=h.loc #[(x:Int),(y:Int),.bool z] 296;have hA:=(hA0.alloc (.cells #[.int .i64 0,.int .i64 0,.bool false] 296)).drew;have L1:=(L0.alloc hA0.bu (.cells #[.int .i64 0,.int .i64 0,.bool false] 296)).drew;have L2:=(hA0.loc #[.int .i64 0,.int .i64 0,.bool false] 296).drew;rw[show(w.alloc (.cells #[(x:Int),(y:Int),.bool z] 296)).heap.size=w.heap.size+1 by simp]at L2;clear L0 hA0 h;obtain⟨⟨q0,q1,q2⟩,_⟩:=L1.reads;go_enter func227,ntmps227;go_wp2_with fail;go_region_held3 (λw'=>w'.cell? ⟨w,0,none⟩=some (.int .i64 (x:Int)) /\ w'.cell? ⟨w,1,none⟩=some (.int .i64 (y:Int)) /\ w'.cell? ⟨w,2,none⟩=some (.bool z)) (go_keep)
  (first|(go_at_call 218;refine(gq (At.bu (w0:=w) ‹_›) val ‹_› hv).mono ?_;rintro e wn⟨rfl,hn⟩;have hA':=At.then (w0:=w) ‹_› hn;have L1':=Loc.kp (i:=w.heap.size) ‹_› hn.kp;have L2':=Loc.kp (i:=w.heap.size+1) ‹_› hn.kp;obtain⟨⟨q0',q1',q2'⟩,_⟩:=L1'.reads;obtain⟨_,p0',p1',p2'⟩:=L2'.reads))
 obtain⟨hF,LF⟩:=At.store3 hA' L2' (Nat.le_succ _) (.int .i64 (aw ns x v val:Int)) (.int .i64 (aw ns y v val:Int)) (.bool z);obtain⟨⟨r0,r1,r2⟩,_⟩:=LF.reads;go_wp2_with fail;refine bodyPost_ret (v:=cF (aw ns x v val,aw ns y v val,z)) (by simp[results,results227,go_sem,r0,r1,r2]) rfl ⟨rfl,hF⟩
end
end Go.Proofs.YtjmclcmgpaofiaaGreat
namespace Go.Proofs.YtjmclcmgpaofiaaGreat
open Tryz
variable {a8:Nat}{ns ns':List Nd}
theorem eq(h:Wf a8 ns){f v:Nat}(hf:f<ns.length)(hv:v<a8)(val:Bool):aw ns f v val<ns.length:=by
 unfold aw;by_cases e:nv ns f=v
 ·have f2:=va_lt h hf (by omega);have l1:=h.lo f f2 hf;have l2:=h.hi f f2 hf;rw[if_pos e];cases val
  ·simp only[Bool.false_eq_true,if_false];exact Nat.lt_trans l1 hf
  ·simp only[if_true];exact Nat.lt_trans l2 hf
 ·rw[if_neg e];exact hf
theorem dA(h:Wf a8 ns){f v:Nat}(hf:f<ns.length)(hv:v<a8)(hle:v<=nv ns f)(val:Bool):v<nv ns (aw ns f v val):=by
 unfold aw;by_cases e:nv ns f=v
 ·have f2:=va_lt h hf (by omega);have l1:=h.vlo f f2 hf;have l2:=h.vhi f f2 hf;rw[if_pos e];cases val
  ·simp only[Bool.false_eq_true,if_false];exact e ▸ l1
  ·simp only[if_true];exact e ▸ l2
 ·rw[if_neg e];exact Nat.lt_of_le_of_ne hle (λx=>e x.symm)
theorem dU(h:Wf a8 ns){f v:Nat}(hf:f<ns.length)(hv:v<a8)(hle:v<=nv ns f)(val:Bool)(e:Env):ev ns (aw ns f v val) e=ev ns f (setE e v val):=by
 unfold aw;by_cases he:nv ns f=v
 ·have f2:=va_lt h hf (by omega);rw[if_pos he,<- he,cV h f2 hf];cases val <;> simp
 ·rw[if_neg he,fI h hf (Nat.lt_of_le_of_ne hle (λx=>he x.symm))]
theorem dB(X:Ext ns ns'){f:Nat}(hf:f<ns.length)(v:Nat)(val:Bool):aw ns' f v val=aw ns f v val:=by
 unfold aw;rw[nv,nh,nl,X.nd hf]
theorem jG{e:Env}{v:Nat}{b:Bool}(h:e v=b):setE e v b=e:=by rw[<- h];exact zu e v
def pc(ns:List Nd)(c:Nd)(v:Nat)(val:Bool):Nd:=(aw ns c.1 v val,aw ns c.2.1 v val,aw ns c.2.2 v val)
def Inside(ns:List Nd)(c:Nd):Prop:=c.1<ns.length /\ c.2.1<ns.length /\ c.2.2<ns.length
def au(ns:List Nd)(c:Nd):Nat:=min (min (nv ns c.1) (nv ns c.2.1)) (nv ns c.2.2)
theorem Inside.ext{c:Nd}(h:Inside ns c)(X:Ext ns ns'):Inside ns' c:=by
 have:=X.len;obtain⟨h1,h2,h3⟩:=h;exact⟨by omega,by omega,by omega⟩
theorem fK{c:Nd}(h:Inside ns c)(X:Ext ns ns'):au ns' c=au ns c:=by
 obtain⟨h1,h2,h3⟩:=h;unfold au;rw[X.va h1,X.va h2,X.va h3]
theorem lE{c:Nd}(h:Inside ns c)(X:Ext ns ns')(v:Nat)(val:Bool):pc ns' c v val=pc ns c v val:=by
 obtain⟨h1,h2,h3⟩:=h;unfold pc;rw[dB X h1,dB X h2,dB X h3]
theorem jH(h:Wf a8 ns){c:Nd}(hc:Inside ns c){v:Nat}(hv:v<a8)(val:Bool):Inside ns (pc ns c v val):=⟨eq h hc.1 hv val,eq h hc.2.1 hv val,eq h hc.2.2 hv val⟩
theorem pT(h:Wf a8 ns){c:Nd}(hc:Inside ns c)(hv:au ns c<a8)(val:Bool):au ns c<au ns (pc ns c (au ns c) val):=by
 have a1:=dA h hc.1 hv (by unfold au;omega) val;have a2:=dA h hc.2.1 hv (by unfold au;omega) val;have a3:=dA h hc.2.2 hv (by unfold au;omega) val;show _<min (min (nv ns (aw ns c.1 _ val)) (nv ns (aw ns c.2.1 _ val))) (nv ns (aw ns c.2.2 _ val));omega
structure IsIte(ns:List Nd)(c:Nd)(f:Nat):Prop where
 inside:Inside ns c
 lt:f<ns.length
 ev:∀e,ev ns f e=if ev ns c.1 e then ev ns c.2.1 e else ev ns c.2.2 e
 va:au ns c<=nv ns f
theorem IsIte.ext{c:Nd}{f:Nat}(h:IsIte ns c f)(X:Ext ns ns')(wf:Wf a8 ns)(wf':Wf a8 ns'):IsIte ns' c f:=by
 have hl:=X.len;have lt:=h.lt;refine⟨h.inside.ext X,by omega,λe=>?_,?_⟩
 ·rw[X.ev wf wf' _ h.lt,X.ev wf wf' _ h.inside.1,X.ev wf wf' _ h.inside.2.1,X.ev wf wf' _ h.inside.2.2];exact h.ev e
 ·rw[fK h.inside X,X.va h.lt];exact h.va
theorem pU{c:Nd}(hc:Inside ns c)(he:c.2.1=c.2.2):IsIte ns c c.2.1:=⟨hc,hc.2.1,λe=>by rw[<- he];simp,by unfold au;omega⟩
theorem pV{c:Nd}(hc:Inside ns c)(he:c.1=1):IsIte ns c c.2.1:=⟨hc,hc.2.1,λe=>by rw[he,ev1];simp,by unfold au;omega⟩
theorem pW{c:Nd}(hc:Inside ns c)(he:c.1=0):IsIte ns c c.2.2:=⟨hc,hc.2.2,λe=>by rw[he,ev0];simp,by unfold au;omega⟩
theorem zL(wf:Wf a8 ns){c:Nd}(hc:Inside ns c)(hv:au ns c<a8){l u f:Nat}(h0:IsIte ns (pc ns c (au ns c) false) l)(h1:IsIte ns (pc ns c (au ns c) true) u)(hn:IsNode ns (au ns c) l u f):IsIte ns c f:=by
 refine⟨hc,hn.lt,λe=>?_,hn.va⟩;have k1:au ns c<=nv ns c.1:=by unfold au;omega
 have k2:au ns c<=nv ns c.2.1:=by unfold au;omega
 have k3:au ns c<=nv ns c.2.2:=by unfold au;omega
 have e0:=h0.ev e;have e1:=h1.ev e;simp only[pc,dU wf hc.1 hv k1,dU wf hc.2.1 hv k2,dU wf hc.2.2 hv k3]at e0 e1;rw[hn.ev,e0,e1];cases hb:e (au ns c)
 ·rw[jG hb];simp
 ·rw[jG hb];simp
def MemoC(ns:List Nd)(m:Nd->Option Nat):Prop:=∀c f,m c=some f->IsIte ns c f
theorem MemoC.ext{m:Nd->Option Nat}(h:MemoC ns m)(X:Ext ns ns')(wf:Wf a8 ns)(wf':Wf a8 ns'):MemoC ns' m:=λc f e=>(h c f e).ext X wf wf'
theorem MemoC.upd{m:Nd->Option Nat}(h:MemoC ns m){c:Nd}{f:Nat}(hf:IsIte ns c f):MemoC ns (upd m c f):=by
 intro d g hg;unfold YtjmclcmgpaofiaaGreat.upd at hg;by_cases e:d=c
 ·subst e;rw[if_pos rfl]at hg;cases hg;exact hf
 ·rw[if_neg e]at hg;exact h d g hg
end Go.Proofs.YtjmclcmgpaofiaaGreat
namespace Go.Proofs.YtjmclcmgpaofiaaGreat
open Tryz
open Go.RowKit Go.Maps
section
variable {C:Cfg}{w:World}{ns:List Nd}{d9:Bool}{N:Nat}{m1:Nd->Option Nat}{m2:Mx->Option Nat}{m3:Nat->Option Nat}
theorem pX(h:Bu C w ns true N m1 m2 m3)(c:Nd) :
  Cl 170 #[.pointer (some ⟨C.b,0,none⟩),aU c] w λe w'=>e=.returned (.int .i64 0) /\ At C w w' ns true N m1 m2 m3:=by
 have hA:=(At.refl h).alloc (.cells #[(c.1:Int),(c.2.1:Int),(c.2.2:Int)] 249);obtain⟨b0,b1,b2,b3,b4,bf⟩:=h.reads;have lb:=h.ltb;clear h;go_enter func170,ntmps170;go_wp2_with fail;go_ret;exact⟨rfl,hA⟩
theorem pY(h:Bu C w ns false N m1 m2 m3)(y z:Nat) :
  Cl 170 #[.pointer (some ⟨C.b,0,none⟩),aU (1,y,z)] w λe w'=>e=.returned (y:Int) /\ At C w w' ns false N m1 m2 m3:=by
 have hA:=(At.refl h).alloc (.cells #[.int .i64 1,(y:Int),(z:Int)] 249);obtain⟨b0,b1,b2,b3,b4,bf⟩:=h.reads;have lb:=h.ltb;clear h;go_enter func170,ntmps170;go_wp2_with fail;go_ret;exact⟨rfl,hA⟩
theorem pZ(h:Bu C w ns false N m1 m2 m3)(x y:Nat)(hx:x≠1) :
  Cl 170 #[.pointer (some ⟨C.b,0,none⟩),aU (x,y,y)] w λe w'=>e=.returned (y:Int) /\ At C w w' ns false N m1 m2 m3:=by
 have hA:=(At.refl h).alloc (.cells #[(x:Int),(y:Int),(y:Int)] 249);obtain⟨b0,b1,b2,b3,b4,bf⟩:=h.reads;have lb:=h.ltb;have x1:((x:Int) == 1)=false:=by simp;omega
 clear h;go_enter func170,ntmps170;go_wp2_with fail;go_ret;exact⟨rfl,hA⟩
theorem qa(h:Bu C w ns false N m1 m2 m3)(y z:Nat)(hyz:y≠z) :
  Cl 170 #[.pointer (some ⟨C.b,0,none⟩),aU (0,y,z)] w λe w'=>e=.returned (z:Int) /\ At C w w' ns false N m1 m2 m3:=by
 have hA:=(At.refl h).alloc (.cells #[.int .i64 0,(y:Int),(z:Int)] 249);obtain⟨b0,b1,b2,b3,b4,bf⟩:=h.reads;have lb:=h.ltb;have hyz':((y:Int) ==(z:Int))=false:=by simp;omega
 clear h;go_enter func170,ntmps170;go_wp2_with fail;go_ret;exact⟨rfl,hA⟩
theorem zO(h:Bu C w ns false N m1 m2 m3){c1:Nat}(hc1:C.c1=some c1){x y z f:Nat}(ho:ok3 (x,y,z))(hx:2<=x)(hyz:y≠z)(hf:m1 (x,y,z)=some f) :
  Cl 170 #[.pointer (some ⟨C.b,0,none⟩),aU (x,y,z)] w λe w'=>e=.returned (f:Int) /\ At C w w' ns false N m1 m2 m3:=by
 have hA:=((At.refl h).alloc (.cells #[(x:Int),(y:Int),(z:Int)] 249)).drew;obtain⟨b0,b1,b2,b3,b4,bf⟩:=h.reads;have lb:=h.ltb;have hlook:=(hA.bu.o1 c1 hc1).look tz2 (x:=(x,y,z)) ho;rw[hf]at hlook;simp only[eM,Option.getD_some,Option.isSome_some]at hlook;rw[hc1]at b2;have x1:((x:Int) == 1)=false:=by simp;omega
 have x0:((x:Int) == 0)=false:=by simp;omega
 have hyz':((y:Int) ==(z:Int))=false:=by simp;omega
 clear h;go_enter func170,ntmps170;go_wp2_with fail;go_region;all_goals
  go_wp2_with fail;go_ret;exact⟨rfl,hA⟩
end
end Go.Proofs.YtjmclcmgpaofiaaGreat
namespace Go.Proofs.YtjmclcmgpaofiaaGreat
open Tryz
def DepS(S:Nat->Bool)(φ:Env->Bool):Prop:=∀e e':Env,(∀i,S i=true->e i=e' i)->φ e=φ e'
def cnR(S:Nat->Bool):Nat->Nat->Nat
 | 0,_=>0
 | d+1,v=>(if S v then 1 else 0)+cnR S d (v+1)
def cnS(S:Nat->Bool)(a8 v:Nat):Nat:=cnR S (a8-v) v
section
variable {S T:Nat->Bool}{a8:Nat}{ns ns':List Nd}
theorem dV{v:Nat}(hv:v<a8)(h:S v=true):cnS S a8 v=cnS S a8 (v+1)+1:=by
 unfold cnS;obtain⟨d,hd⟩:∃d,a8-v=d+1:=⟨a8-v-1,by omega⟩;rw[hd,cnR,if_pos h,show a8-(v+1)=d by omega];omega
theorem zP(v:Nat):cnS S a8 (v+1)<=cnS S a8 v:=by
 unfold cnS;by_cases h:v<a8
 ·obtain⟨d,hd⟩:∃d,a8-v=d+1:=⟨a8-v-1,by omega⟩;rw[hd,cnR,show a8-(v+1)=d by omega];omega
 ·rw[show a8-(v+1)=0 by omega,cnR];omega
theorem cW{v v':Nat}(h:v<=v'):cnS S a8 v'<=cnS S a8 v:=by
 obtain⟨d,rfl⟩:∃d,v'=v+d:=⟨v'-v,by omega⟩;clear h
 induction d with
 | zero=>exact Nat.le_refl _
 | succ d ih=>exact Nat.le_trans (zP (v+d)) ih
theorem zQ(d v:Nat):cnR (λ_=>true) d v=d:=by
 induction d generalizing v with
 | zero=>rfl
 | succ d ih=>rw[cnR,ih];simp;omega
theorem qb(v:Nat):cnS (λ_=>true) a8 v=a8-v:=zQ _ _
theorem zS(d d' v:Nat)(h:d<=d'):cnR S d v<=cnR S d' v:=by
 induction d generalizing d' v with
 | zero=>rw[cnR];omega
 | succ d ih =>
   obtain⟨m,rfl⟩:∃m,d'=m+1:=⟨d'-1,by omega⟩;rw[cnR,cnR];have:=ih m (v+1) (by omega);omega
theorem zT{v vars':Nat}(h:a8<=vars'):cnS S a8 v<=cnS S vars' v:=zS _ _ _ (by omega)
theorem DepS.all(φ:Env->Bool):DepS (λ_=>true) φ:=λe e' h=>by
 have:e=e':=funext λi=>h i rfl;rw[this]
theorem DepS.mono{φ:Env->Bool}(h:DepS S φ)(hs:∀i,S i=true->T i=true):DepS T φ:=λe e' he=>h e e' λi hi=>he i (hs i hi)
theorem DepS.set{φ:Env->Bool}(h:DepS S φ)(v:Nat)(b:Bool):DepS S (λe=>φ (setE e v b)):=λe e' he=>h _ _ λi hi=>by
 unfold setE;by_cases hv:i=v
 ·rw[if_pos hv,if_pos hv]
 ·rw[if_neg hv,if_neg hv];exact he i hi
theorem DepS.ext(wf:Wf a8 ns)(wf':Wf a8 ns')(X:Ext ns ns'){f:Nat}(hf:f<ns.length)(h:DepS S (ev ns f)):DepS S (ev ns' f):=λe e' he=>by
 rw[X.ev wf wf' f hf,X.ev wf wf' f hf];exact h e e' he
theorem DepS.part(wf:Wf a8 ns){f v:Nat}(hf:f<ns.length)(hv:v<a8)(hle:v<=nv ns f)(val:Bool)(h:DepS S (ev ns f)):DepS S (ev ns (aw ns f v val)):=λe e' he=>by
 rw[dU wf hf hv hle,dU wf hf hv hle];exact h.set v val e e' he
theorem DepS.var(wf:Wf a8 ns){f:Nat}(f2:2<=f)(hf:f<ns.length)(h:DepS S (ev ns f)):S (nv ns f)=true:=by
 cases hs:S (nv ns f)with
 | true=>rfl
 | false =>
   refine absurd (lC wf (Nat.lt_trans (wf.lo f f2 hf) hf) (Nat.lt_trans (wf.hi f f2 hf) hf) λe=>?_) (wf.ne f f2 hf);have h0:=cV wf f2 hf e false;have h1:=cV wf f2 hf e true;simp only[Bool.false_eq_true,if_false,if_true]at h0 h1;rw[<- h0,<- h1];refine h _ _ λi hi=>?_;have:i≠nv ns f:=λe=>by rw[e,hs]at hi;cases hi
   rw[cM _ _ this,cM _ _ this]
structure Fit(S:Nat->Bool)(a8:Nat)(ns:List Nd)(c:Nd)(k:Nat):Prop where
 d1:DepS S (ev ns c.1)
 d2:DepS S (ev ns c.2.1)
 d3:DepS S (ev ns c.2.2)
 le:cnS S a8 (au ns c)<=k
theorem qd{c:Nd}{k:Nat}(h:a8<=au ns c+k):Fit (λ_=>true) a8 ns c k:=⟨DepS.all _,DepS.all _,DepS.all _,by rw[qb];omega⟩
theorem qe(wf:Wf a8 ns){c:Nd}(hc:Inside ns c)(hv:au ns c<a8){k:Nat}(h:Fit S a8 ns c k):S (au ns c)=true:=by
 obtain⟨x,y,z⟩:=c;have hm:au ns (x,y,z)=nv ns x\/au ns (x,y,z)=nv ns y\/au ns (x,y,z)=nv ns z:=by simp only[au];omega
 rcases hm with e|e|e
 ·rw[e]at hv ⊢;exact h.d1.var wf (va_lt wf hc.1 hv) hc.1
 ·rw[e]at hv ⊢;exact h.d2.var wf (va_lt wf hc.2.1 hv) hc.2.1
 ·rw[e]at hv ⊢;exact h.d3.var wf (va_lt wf hc.2.2 hv) hc.2.2
theorem Fit.down(wf:Wf a8 ns){c:Nd}(hc:Inside ns c)(hv:au ns c<a8){k:Nat}(h:Fit S a8 ns c (k+1))(val:Bool):Fit S a8 ns (pc ns c (au ns c) val) k:=by
 have k1:au ns c<=nv ns c.1:=by unfold au;omega
 have k2:au ns c<=nv ns c.2.1:=by unfold au;omega
 have k3:au ns c<=nv ns c.2.2:=by unfold au;omega
 refine⟨h.d1.part wf hc.1 hv k1 val,h.d2.part wf hc.2.1 hv k2 val,h.d3.part wf hc.2.2 hv k3 val,?_⟩;have hm:=pT wf hc hv val;have h1:=dV hv (qe wf hc hv h);have h2:=cW (S:=S) (a8:=a8) (show au ns c+1<=au ns (pc ns c (au ns c) val)from hm);have h3:=h.le;omega
theorem Fit.zero(wf:Wf a8 ns){c:Nd}(hc:Inside ns c)(h:Fit S a8 ns c 0):a8<=au ns c:=by
 by_cases hv:au ns c<a8
 ·have h1:=dV hv (qe wf hc hv h);have h3:=h.le;omega
 ·omega
theorem Fit.ext(wf:Wf a8 ns)(wf':Wf a8 ns'){c:Nd}(hc:Inside ns c)(X:Ext ns ns'){k:Nat}(h:Fit S a8 ns c k):Fit S a8 ns' c k :=
 ⟨h.d1.ext wf wf' X hc.1,h.d2.ext wf wf' X hc.2.1,h.d3.ext wf wf' X hc.2.2,by rw[fK hc X];exact h.le⟩
structure Fit1(S:Nat->Bool)(a8:Nat)(ns:List Nd)(f k:Nat):Prop where
 d:DepS S (ev ns f)
 le:cnS S a8 (nv ns f)<=k
theorem zU{f k:Nat}(h:a8<=nv ns f+k):Fit1 (λ_=>true) a8 ns f k:=⟨DepS.all _,by rw[qb];omega⟩
theorem Fit1.zero(wf:Wf a8 ns){f:Nat}(hf:f<ns.length)(h:Fit1 S a8 ns f 0):f<2:=by
 by_cases f2:2<=f
 ·have h1:=dV (wf.va f f2 hf) (h.d.var wf f2 hf);have:=h.le;omega
 ·omega
theorem jI(wf:Wf a8 ns){f:Nat}(f2:2<=f)(hf:f<ns.length)(e:Env):ev ns (nl ns f) e=ev ns f (setE e (nv ns f) false):=by
 have:=cV wf f2 hf e false;simp only[Bool.false_eq_true,if_false]at this;exact this.symm
theorem jJ(wf:Wf a8 ns){f:Nat}(f2:2<=f)(hf:f<ns.length)(e:Env):ev ns (nh ns f) e=ev ns f (setE e (nv ns f) true):=by
 have:=cV wf f2 hf e true;simp only[if_true]at this;exact this.symm
theorem Fit1.lo(wf:Wf a8 ns){f k:Nat}(f2:2<=f)(hf:f<ns.length)(h:Fit1 S a8 ns f (k+1)):Fit1 S a8 ns (nl ns f) k:=by
 refine⟨λe e' he=>by rw[jI wf f2 hf,jI wf f2 hf];exact h.d.set _ _ e e' he,?_⟩;have h1:=dV (wf.va f f2 hf) (h.d.var wf f2 hf);have h2:=cW (S:=S) (a8:=a8) (show nv ns f+1<=nv ns (nl ns f)from wf.vlo f f2 hf);have:=h.le;omega
theorem Fit1.hi(wf:Wf a8 ns){f k:Nat}(f2:2<=f)(hf:f<ns.length)(h:Fit1 S a8 ns f (k+1)):Fit1 S a8 ns (nh ns f) k:=by
 refine⟨λe e' he=>by rw[jJ wf f2 hf,jJ wf f2 hf];exact h.d.set _ _ e e' he,?_⟩;have h1:=dV (wf.va f f2 hf) (h.d.var wf f2 hf);have h2:=cW (S:=S) (a8:=a8) (show nv ns f+1<=nv ns (nh ns f)from wf.vhi f f2 hf);have:=h.le;omega
end
end Go.Proofs.YtjmclcmgpaofiaaGreat
