/-
  XAC.
-/
import Derived.Test.YtjmclcmgpaofiaaGreatXLy
import Derived.Test.YtjmclcmgpaofiaaGreatXAB
import Derived.Laws.CopyRow
import Derived.Maps.OwnSet
import Derived.Laws.AppendOwnNone
import Derived.Lib.SliceRun
import Derived.Test.YtjmclcmgpaofiaaGreatProg
import Derived.WalkKit
import Derived.DeepKeys5
set_option maxHeartbeats 8000000
set_option maxRecDepth 100000
namespace Go.Proofs.YtjmclcmgpaofiaaGreat
open Tryz
open Go.RowKit
theorem Az{xs:List Rl}{k:Nat}{r:Rl}(h:xs[k]?=some r)(p q s t:Int):letsB (xs.drop k) p q s t=if inR r p q s t then r.ok else letsB (xs.drop (k+1)) p q s t:=by
 obtain⟨hk,e⟩:=List.getElem?_eq_some_iff.1 h;rw[List.drop_eq_getElem_cons hk,e];rfl
theorem AE(b o cap:Nat)(xs:List Rl)(p q s t:Int)(w:World)(hb:b<w.heap.size)(hn:xs.length<=cap)(hcap:cap<=maxLen)(hr:RAt w b o xs) :
  CB 179 #[.slice (some ⟨b,o,none⟩) xs.length cap,pk p q s t] w (.bool (letsB xs p q s t)):=by
 unfold maxLen at hcap;have D0:=Below.alloc' (Below.refl w w) (.cells #[p,q,s,t] 37);have F0:=jf w (.int .i64 p) (.int .i64 q) (.int .i64 s) (.int .i64 t) 37;go_enter func179,ntmps179;go_wp2_with fail;go_loopw[9] (λi wr=>∃k:Nat,i=.int .i64 (k:Int) /\ k<=xs.length /\ Below w w wr /\ Four wr w.heap.size (.int .i64 p) (.int .i64 q) (.int .i64 s) (.int .i64 t) /\ letsB xs p q s t=letsB (xs.drop k) p q s t) (λi _=>xs.length-(intOf i).toNat)
 case atStart=>exact⟨0,rfl,by omega,D0,F0,rfl⟩
 case round =>
  obtain⟨k,rfl,hk,D1,F1,hl⟩:=hrel;have Hl:Hid (letsB xs p q s t=letsB (xs.drop k) p q s t):=hl;clear hl;by_cases hlt:k<xs.length
  ·obtain⟨r,hxk⟩:∃r,xs[k]?=some r:=⟨_,List.getElem?_eq_getElem hlt⟩;obtain⟨c0,c1,c2,c3,c4⟩:=(hr.below D1 hb).at hxk;have Hd:Hid (letsB (xs.drop k) p q s t=if inR r p q s t then r.ok else letsB (xs.drop (k+1)) p q s t):=Az hxk p q s t;have IN:Hid (∀w,CB 207 #[mt r.a r.b r.c r.d,pk p q s t] w (.bool (inR r p q s t))):=λw=>wE r.a r.b r.c r.d p q s t w r.ha r.hb r.hc r.hd;have D2:=Below.alloc' D1 (.cells #[.bool r.ok,.int .u16 (r.a:Int),.int .u16 (r.b:Int),.int .u8 (r.c:Int),.int .u8 (r.d:Int)] 64);have F2:=oe F1 (.cells #[.bool r.ok,.int .u16 (r.a:Int),.int .u16 (r.b:Int),.int .u8 (r.c:Int),.int .u8 (r.d:Int)] 64);have B2:(wr.alloc (.cells #[.bool r.ok,.int .u16 (r.a:Int),.int .u16 (r.b:Int),.int .u8 (r.c:Int),.int .u8 (r.d:Int)] 64)).cell? ⟨wr,0,none⟩=some (.bool r.ok):=by simp[go_sem]
   obtain⟨l0,g0,g1,g2,g3⟩:=id F1;have lw:=D1.size;clear hr hxk;generalize inR r p q s t=v at *;generalize r.ok=ok at *;generalize r.a=ra at *;generalize r.b=rb at *;generalize r.c=rc at *;generalize r.d=rd at *;go_wp2_with fail;refine(IN.out _).mono ?_;rintro e w3⟨rfl,hb3⟩;have D3:=ag hb3 D2;have F3:=aC hb3 F2;have c5:w3.cell? ⟨wr,0,none⟩=some (.bool ok):=(hb3.cell (p:=⟨wr,0,none⟩) (by simp)).trans B2;clear hb3 D2 F2 F1 D1 B2 IN c0 c1 c2 c3 c4 g0 g1 g2 g3;cases v
   ·go_wp2_with fail;go_roundw
    case rel=>exact⟨k+1,by go_num,by omega,D3,F3,by rw[Hl.out,Hd.out];simp⟩
    case measure=>simp[intOf];omega
   ·go_wp2_with fail;go_ret;exact⟨by rw[Hl.out,Hd.out];simp,D3⟩
  ·go_wp2_with fail;go_ret;exact⟨by rw[Hl.out,List.drop_eq_nil_of_le (by omega)];rfl,D1⟩
theorem AG(A:Option Addr)(cap:Nat)(p q s t:Int)(w:World) :
  CB 179 #[.slice A 0 cap,pk p q s t] w (.bool false):=by
 have D0:=Below.alloc' (Below.refl w w) (.cells #[p,q,s,t] 37);go_enter func179,ntmps179;go_wp2_with fail;go_loopw[9] (λi wr=>i=.int .i64 0 /\ Below w w wr) (λi _=>0)
 case atStart=>exact⟨rfl,D0⟩
 case round =>
  obtain⟨rfl,D1⟩:=hrel;go_wp2_with fail;go_ret;exact⟨rfl,D1⟩
theorem qv{v:Value}{xs:List Rl}(p q s t:Int)(w:World)(h:Rules w w v xs) :
  CB 179 #[v,pk p q s t] w (.bool (letsB xs p q s t)):=by
 obtain⟨A,cap,rfl,_,h1,h2,h3⟩:=h;by_cases hx:xs=[]
 ·subst hx;exact AG A cap p q s t w
 ·obtain⟨b,o,rfl,hb,hr⟩:=h3 hx;exact AE b o cap xs p q s t w hb h1 h2 hr
end Go.Proofs.YtjmclcmgpaofiaaGreat
namespace Go.Proofs.YtjmclcmgpaofiaaGreat
open Tryz
open Go.RowKit Go.Maps
def Bk(w:World)(k:Nat)(c:Array Value)(t:TypeId):Prop:=w.heap[k]?=some (.cells c t (0,0))
section
variable {w w':World}{k:Nat}{c:Array Value}{t:TypeId}
theorem Bk.lt(h:Bk w k c t):k<w.heap.size:=(Array.getElem?_eq_some_iff.1 h).1
theorem Bk.below{B:Nat}(h:Bk w k c t)(hb:Below B w w')(hk:k<B):Bk w' k c t:=(hb.block k hk).trans h
theorem Bk.keep(hb:Below w w w')(h:Bk w k c t):Bk w' k c t:=h.below hb h.lt
theorem Bk.alloc(h:Bk w k c t)(o:Obj):Bk (w.alloc o) k c t:=h.below ((Below.refl _ _).alloc (Nat.le_refl _) o) h.lt
theorem Bk.drew(h:Bk w k c t):Bk w.drew k c t:=h
theorem ah(w:World)(c:Array Value)(t:TypeId):Bk (w.alloc (.cells c t)) w.heap.size c t:=by
 show(w.heap.push _)[w.heap.size]?=_;simp
theorem ax(w:World)(c:Array Value)(t:TypeId)(k:Nat)(h:k=w.heap.size):Bk (w.alloc (.cells c t)) k c t:=by rw[h];exact ah w c t
theorem Bk.at(h:Bk w k c t)(j:Nat):w.cell? ⟨k,j,none⟩=c[j]?:=cell_of_row w k j _ _ _ h
theorem Bk.fz(h:Bk w k c t)(j:Nat):w.frozen? ⟨k,j,none⟩=false:=by
 unfold Bk at h;simp[World.frozen?,h]
end
structure Put(k:Nat)(w w':World):Prop where
 os:w'.os=w.os
 tape:w'.tape=w.tape
 output:w'.output=w.output
 size:w'.heap.size=w.heap.size
 block:∀b,b≠k->w'.heap[b]?=w.heap[b]?
theorem Bk.setO{w:World}{k b j:Nat}{c:Array Value}{t:TypeId}(h:Bk w k c t)(hne:k≠b)(u:Value):Bk (w.setCell ⟨b,j,none⟩ u) k c t:=(Below.heap_setCell w ⟨b,j,none⟩ u k hne).trans h
theorem Bk.setS{w:World}{k j:Nat}{c:Array Value}{t:TypeId}(h:Bk w k c t)(u:Value):Bk (w.setCell ⟨k,j,none⟩ u) k (c.setIfInBounds j u) t:=by
 unfold Bk at *;simp[World.setCell,Array.getElem?_modify,h]
theorem Bk.four{w:World}{k:Nat}{t:TypeId}{a b c d:Value}(h:Bk w k #[a,b,c,d] t):w.cell? ⟨k,0,none⟩=some a /\ w.cell? ⟨k,1,none⟩=some b /\ w.cell? ⟨k,2,none⟩=some c /\ w.cell? ⟨k,3,none⟩=some d /\ w.frozen? ⟨k,0,none⟩=false /\ w.frozen? ⟨k,1,none⟩=false /\ w.frozen? ⟨k,2,none⟩=false /\ w.frozen? ⟨k,3,none⟩=false:=⟨h.at 0,h.at 1,h.at 2,h.at 3,h.fz 0,h.fz 1,h.fz 2,h.fz 3⟩
theorem Bk.one{w:World}{k:Nat}{t:TypeId}{a:Value}(h:Bk w k #[a] t):w.cell? ⟨k,0,none⟩=some a /\ w.frozen? ⟨k,0,none⟩=false:=⟨h.at 0,h.fz 0⟩
theorem Bk.two{w:World}{k:Nat}{t:TypeId}{a b:Value}(h:Bk w k #[a,b] t):w.cell? ⟨k,0,none⟩=some a /\ w.cell? ⟨k,1,none⟩=some b:=⟨h.at 0,h.at 1⟩
theorem Bk.five{w:World}{k:Nat}{t:TypeId}{a b c d e:Value}(h:Bk w k #[a,b,c,d,e] t):w.cell? ⟨k,0,none⟩=some a /\ w.cell? ⟨k,1,none⟩=some b /\ w.cell? ⟨k,2,none⟩=some c /\ w.cell? ⟨k,3,none⟩=some d /\ w.cell? ⟨k,4,none⟩=some e:=⟨h.at 0,h.at 1,h.at 2,h.at 3,h.at 4⟩
theorem Bk.six{w:World}{k:Nat}{t:TypeId}{a b c d e f:Value}(h:Bk w k #[a,b,c,d,e,f] t):(w.cell? ⟨k,0,none⟩=some a /\ w.cell? ⟨k,1,none⟩=some b /\ w.cell? ⟨k,2,none⟩=some c /\ w.cell? ⟨k,3,none⟩=some d /\ w.cell? ⟨k,4,none⟩=some e /\ w.cell? ⟨k,5,none⟩=some f) /\ (w.frozen? ⟨k,0,none⟩=false /\ w.frozen? ⟨k,1,none⟩=false /\ w.frozen? ⟨k,2,none⟩=false /\ w.frozen? ⟨k,3,none⟩=false /\ w.frozen? ⟨k,4,none⟩=false /\ w.frozen? ⟨k,5,none⟩=false):=⟨⟨h.at 0,h.at 1,h.at 2,h.at 3,h.at 4,h.at 5⟩,⟨h.fz 0,h.fz 1,h.fz 2,h.fz 3,h.fz 4,h.fz 5⟩⟩
theorem Bk.seven{w:World}{k:Nat}{t:TypeId}{a b c d e f g:Value}(h:Bk w k #[a,b,c,d,e,f,g] t):w.cell? ⟨k,0,none⟩=some a /\ w.cell? ⟨k,1,none⟩=some b /\ w.cell? ⟨k,2,none⟩=some c /\ w.cell? ⟨k,3,none⟩=some d /\ w.cell? ⟨k,4,none⟩=some e /\ w.cell? ⟨k,5,none⟩=some f /\ w.cell? ⟨k,6,none⟩=some g:=⟨h.at 0,h.at 1,h.at 2,h.at 3,h.at 4,h.at 5,h.at 6⟩
def fM(a9:Nat)(w:World)(v:Value)(N n:Nat)(cs:List Value):Prop :=
 ∃A cap,v=.slice A N cap /\ (A=none->cap=0) /\ N<=cap /\ cap<=maxLen /\ cs.length=N*n /\ (∀u∈cs,u.oneCell'=true) /\
   (N≠0->∃b o,A=some ⟨b,o,none⟩ /\ b<a9 /\ ∀j u,cs[j]?=some u->w.cell? ⟨b,o+j,none⟩=some u)
theorem qw{α:Type}{w:World}{n:Nat}{R:List Value->α->Prop}(h1:∀cs x,R cs x->∀u∈cs,u.oneCell'=true){b:Nat}:∀(xs:List α) (o:Nat),(∀k x,xs[k]?=some x->∃c:List Value,c.length=n /\ R c x /\ ∀j u,c[j]?=some u->w.cell? ⟨b,o+k*n+j,none⟩=some u) ->
  ∃cs:List Value,cs.length=xs.length*n /\ (∀j u,cs[j]?=some u->w.cell? ⟨b,o+j,none⟩=some u) /\ (∀u∈cs,u.oneCell'=true) /\ ∀k x,xs[k]?=some x->R ((cs.drop (k*n)).take n) x
 | [],_,_=>⟨[],by simp,(λj u hj=>by simp at hj),(λu hu=>by cases hu),(λk x hx=>by simp at hx)⟩
 | x::xs,o,h=>by
   obtain⟨c0,l0,r0,e0⟩:=h 0 x rfl;obtain⟨cs,l1,e1,o1,r1⟩:=qw h1 xs (o+n) (λk y hy=>by
    obtain⟨c,l,r,e⟩:=h (k+1) y (by simpa using hy);exact⟨c,l,r,λj u hj=>by
     have:=e j u hj
     rwa [show o+(k+1)*n+j=o+n+k*n+j by rw[Nat.add_mul,Nat.one_mul];omega]at this⟩)
   refine⟨c0++cs,?_,λj u hj=>?_,λu hu=>?_,λk y hy=>?_⟩
   ·rw[List.length_append,l0,l1,List.length_cons,Nat.add_mul];omega
   ·by_cases hl:j<n
    ·rw[List.getElem?_append_left (by omega)]at hj;have:=e0 j u hj;simpa using this
    ·rw[List.getElem?_append_right (by omega),l0]at hj;have:=e1 (j-n) u hj
     rwa [show o+n+(j-n)=o+j by omega]at this
   ·rcases List.mem_append.1 hu with hu|hu
    ·exact h1 _ _ r0 u hu
    ·exact o1 u hu
   ·cases k with
    | zero =>
      obtain rfl:x=y:=by simpa using hy
      rw[Nat.zero_mul,List.drop_zero,<- l0,List.take_left']
      ·exact r0
      ·rfl
    | succ k =>
      have e:(c0++cs).drop ((k+1)*n)=cs.drop (k*n):=by
       rw[List.drop_append,List.drop_eq_nil_of_le (by rw[Nat.add_mul,l0];omega),List.nil_append,l0]
       congr 1
       rw[Nat.add_mul];omega
      rw[e];exact r1 k y (by simpa using hy)
theorem SlAt.row{α:Type}{a9 n:Nat}{w:World}{R:List Value->α->Prop}{v:Value}{xs:List α}(h:SlAt a9 w n R v xs)(h1:∀cs x,R cs x->∀u∈cs,u.oneCell'=true) :
  ∃cs,fM a9 w v xs.length n cs /\ ∀k x,xs[k]?=some x->R ((cs.drop (k*n)).take n) x:=by
 obtain⟨A,cap,e,h0,hl,hm,h3⟩:=h;by_cases hx:xs=[]
 ·subst hx;exact⟨[],⟨A,cap,e,h0,hl,hm,by simp,(λu hu=>by cases hu),λhn=>absurd rfl hn⟩,λk x hx=>by simp at hx⟩
 ·obtain⟨b,o,ea,hb,hr⟩:=h3 hx;obtain⟨cs,l1,e1,o1,r1⟩:=qw h1 xs o hr;exact⟨cs,⟨A,cap,e,h0,hl,hm,l1,o1,λ_=>⟨b,o,ea,hb,e1⟩⟩,r1⟩
theorem SlAt.own{α:Type}{a9 n:Nat}{w:World}{t:TypeId}{R:List Value->α->Prop}{v:Value}{xs:List α}{cs:List Value}(h:w.ownsRow a9 t n v xs.length cs)(hr:∀k x,xs[k]?=some x->R ((cs.drop (k*n)).take n) x):SlAt w w n R v xs:=by
 have h':=h;obtain⟨hl,hc⟩:=h;rcases hc with⟨rfl,h0⟩|⟨g,cap,cur,rfl,hb,hg,hn,hcap,hs,ht⟩
 ·exact⟨none,0,by rw[h0],λ_=>rfl,by omega,by unfold maxLen;omega,λhn=>absurd (List.length_eq_zero_iff.1 h0) hn⟩
 ·refine⟨_,cap,rfl,(λe=>by cases e),hn,hcap,λ_=>⟨g,0,rfl,(Array.getElem?_eq_some_iff.1 hg).1,λk x hx=>?_⟩⟩;have hk:=(List.getElem?_eq_some_iff.1 hx).1;have hle:k*n+n<=cs.length:=by
   have hm:=Nat.mul_le_mul_right n (show k+1<=xs.length from hk);rw[Nat.add_mul,Nat.one_mul]at hm;omega
  refine⟨(cs.drop (k*n)).take n,?_,hr k x hx,λj u hj=>?_⟩
  ·rw[List.length_take,List.length_drop];omega
  ·have hjn:j<n:=by
    have:=(List.getElem?_eq_some_iff.1 hj).1;rw[List.length_take]at this;omega
   rw[List.getElem?_take_of_lt hjn,List.getElem?_drop]at hj;have:=h'.cells (g:=g) rfl (k*n+j) u hj;rw[Addr.add_lit]at this
   rwa [show 0+k*n+j=0+(k*n+j) by omega]
theorem eu{P:Program}{w w':World}{ops:Array Oper}{rest:List Oper}{o:Oper}{a:Act}{Q:Exit->Act->World->Prop}(hgd:o.guard=none)(s x:Operand)(t:TypeId)
  (ho:o.op=.call { callee:=.builtin .append,args:=#[s,x],argTypes:=#[t,t] }) {v x' v':Value} (hs:a.eval s=v) (hx:a.eval x=x') (hr:(Builtin.append_ #[t,t] o.type #[v,x']).run P w=.ok v' w')
  (h:wpList P ops Q rest (a.put o.dst v') w'):wpList P ops Q (o::rest) a w:=by
 refine wpList_plain hgd λK hK=>?_;unfold Oper.wp execOp;simp only[ho,resolve,invoke,builtin,Sem.run_bind,Sem.run_pure,Result.andThen_ok,List.map_toArray,List.map_cons,List.map_nil,hs,hx,hr];exact hK _ _ h
theorem Below.appC{B a9:Nat}{w0 w w':World}{t:TypeId}{s n:Nat}{v:Value}{cs:List Value}(h:Below B w0 w)(ho:w.ownsRow a9 t s v n cs)(hg:w.grownBy w' v.ownBlock)(hB:B<=a9)(hb:a9<=w.heap.size):Below B w0 w' :=
 h.grown hg (by omega) (λk e=>by have:=(ho.lt k e).1;omega)
theorem oneI(cs:List Value)(x:Int)(h:IsI cs x):∀u∈cs,u.oneCell'=true:=by
 unfold IsI at h;subst h;intro u hu;simp only[List.mem_cons,List.not_mem_nil,or_false]at hu;subst hu;rfl
theorem oneLk(cs:List Value)(x:Lk)(h:dc cs x):∀u∈cs,u.oneCell'=true:=by
 unfold dc at h;subst h;intro u hu;simp only[List.mem_cons,List.not_mem_nil,or_false]at hu;rcases hu with rfl|rfl|rfl|rfl <;> rfl
theorem oneRule(cs:List Value)(x:NRule)(h:aY cs x):∀u∈cs,u.oneCell'=true:=by
 unfold aY at h;subst h;intro u hu;simp only[List.mem_cons,List.not_mem_nil,or_false]at hu;rcases hu with rfl|rfl|rfl|rfl|rfl <;> rfl
theorem oneRoute(cs:List Value)(x:NRoute)(h:br cs x):∀u∈cs,u.oneCell'=true:=by
 unfold br at h;subst h;intro u hu;simp only[List.mem_cons,List.not_mem_nil,or_false]at hu;rcases hu with rfl|rfl|rfl <;> rfl
theorem oneDv{a9:Nat}{w:World}(cs:List Value)(x:Dv)(h:IsDv a9 w cs x):∀u∈cs,u.oneCell'=true:=by
 obtain⟨vb,vr,vt,rfl,h1,h2,h3⟩:=h;obtain⟨_,_,rfl,_⟩:=h1;obtain⟨_,_,rfl,_⟩:=h2;obtain⟨_,_,rfl,_⟩:=h3;intro u hu;simp only[List.mem_cons,List.not_mem_nil,or_false]at hu;rcases hu with rfl|rfl|rfl|rfl|rfl|rfl|rfl <;> rfl
theorem u_ints:prog.underlying 67=some (.slice 3):=by kernel_rfl
theorem AH:(prog.info? 3).map (λi=>(i.zero,i.size,i.bytes))=some (some (.int .i64 0),1,8):=by kernel_rfl
theorem AJ{v:Value}{N:Nat}{cs:List Value}(w:World)(h:fM w.heap.size w v N 1 cs)(hs:N<=1048576) :
  Cl 41 #[v] w λe w'=>∃v',e=.returned v' /\ w'.ownsRow w 3 1 v' N cs /\ Below w w w':=by
 have q:∀(w:World) (a:Option Addr) (n c n' c':Nat),(binOp .eql 67 (.slice a n c) (.slice none n' c')).run prog w=.ok (.bool a.isNone) w:=λw a n c n' c'=>Lib.run_eql_slice_nil w _ _ a n c n' c' u_ints;obtain⟨i0,hi,hz0,hz1,hz2⟩:=info_parts AH;have D0:=Below.alN (Below.refl w w) (.cells #[] 3);have o0:(w.alloc (.cells #[] 3)).ownsRow w 3 1 (.slice (some ⟨w,0,none⟩) 0 0) 0 []:=World.ownsRow_made w #[] 0 (Nat.le_refl _) (Nat.zero_le _) (by simp);obtain⟨A,cap,rfl,h0,h1,h2,hl,ho,h3⟩:=h;cases A with
 | none =>
   have hN:N=0:=by
    by_cases hn:N=0
    ·exact hn
    ·obtain⟨_,_,e,_⟩:=h3 hn;cases e
   subst hN;have hcs:cs=[]:=List.length_eq_zero_iff.1 (by simpa using hl);subst hcs;clear h3 ho hl hs o0;go_enter func41,ntmps41;go_wp2_with fail;go_ret;exact⟨_,rfl,World.ownsRow_nil _ _ _ _,Below.refl _ _⟩
 | some ad =>
   obtain⟨v',w',hr,h4,h5,_⟩:=run_append_own (P:=prog) (w.alloc (.cells #[] 3)) w.heap.size 67 67 3 i0 _ 1 8 u_ints hi hz0 hz1 hz2 rfl (by decide) _ 0 [] o0 ad N cap cs hl (λj u hj=>by
    have hn:N≠0:=λe=>by
     subst e;have:cs=[]:=List.length_eq_zero_iff.1 (by simpa using hl);subst this;simp at hj
    obtain⟨b,o,e,hb,hr⟩:=h3 hn;cases e;rw[Addr.add_lit];exact(D0.cell (p:=⟨b,o+j,none⟩) hb).trans (hr j u hj)) ho (by unfold maxLen;omega) (by omega) (by simp)
   have D1:=Below.appC D0 o0 h5 (Nat.le_refl _) (by simp);simp only[List.nil_append,Nat.zero_add]at h4;have fin:Hid (w'.ownsRow w 3 1 v' N cs /\ Below w w w'):=⟨h4,D1⟩;clear h0 h1 h2 h3 h5 hs o0 D0 h4 D1 hl ho;go_enter func41,ntmps41;go_wp2_with (at_builtin;refine eu rfl _ _ 67 rfl rfl rfl hr ?_);go_ret;exact⟨_,rfl,fin.out⟩
theorem qx:prog.underlying 23=some (.slice 118):=by kernel_rfl
theorem AK:(prog.info? 118).map (λi=>(i.zero,i.size,i.bytes))=some (some (.agg #[.int .i64 0,.int .i64 0,.int .i64 0,.int .i64 0]),4,32):=by kernel_rfl
theorem AM{v:Value}{N:Nat}{cs:List Value}(w:World)(h:fM w.heap.size w v N 4 cs)(hs:N<=1048576) :
  Cl 40 #[v] w λe w'=>∃v',e=.returned v' /\ w'.ownsRow w 118 4 v' N cs /\ Below w w w':=by
 have q:∀(w:World) (a:Option Addr) (n c n' c':Nat),(binOp .eql 23 (.slice a n c) (.slice none n' c')).run prog w=.ok (.bool a.isNone) w:=λw a n c n' c'=>Lib.run_eql_slice_nil w _ _ a n c n' c' qx;obtain⟨i0,hi,hz0,hz1,hz2⟩:=info_parts AK;have D0:=Below.alN (Below.refl w w) (.cells #[] 118);have o0:(w.alloc (.cells #[] 118)).ownsRow w 118 4 (.slice (some ⟨w,0,none⟩) 0 0) 0 []:=World.ownsRow_made w #[] 0 (Nat.le_refl _) (Nat.zero_le _) (by simp);obtain⟨A,cap,rfl,h0,h1,h2,hl,ho,h3⟩:=h;cases A with
 | none =>
   have hN:N=0:=by
    by_cases hn:N=0
    ·exact hn
    ·obtain⟨_,_,e,_⟩:=h3 hn;cases e
   subst hN;have hcs:cs=[]:=List.length_eq_zero_iff.1 (by simpa using hl);subst hcs;clear h3 ho hl hs o0;go_enter func40,ntmps40;go_wp2_with fail;go_ret;exact⟨_,rfl,World.ownsRow_nil _ _ _ _,Below.refl _ _⟩
 | some ad =>
   obtain⟨v',w',hr,h4,h5,_⟩:=run_append_own (P:=prog) (w.alloc (.cells #[] 118)) w.heap.size 23 23 118 i0 _ 4 32 qx hi hz0 hz1 hz2 rfl (by decide) _ 0 [] o0 ad N cap cs hl (λj u hj=>by
    have hn:N≠0:=λe=>by
     subst e;have:cs=[]:=List.length_eq_zero_iff.1 (by simpa using hl);subst this;simp at hj
    obtain⟨b,o,e,hb,hr⟩:=h3 hn;cases e;rw[Addr.add_lit];exact(D0.cell (p:=⟨b,o+j,none⟩) hb).trans (hr j u hj)) ho (by unfold maxLen;omega) (by omega) (by simp)
   have D1:=Below.appC D0 o0 h5 (Nat.le_refl _) (by simp);simp only[List.nil_append,Nat.zero_add]at h4;have fin:Hid (w'.ownsRow w 118 4 v' N cs /\ Below w w w'):=⟨h4,D1⟩;clear h0 h1 h2 h3 h5 hs o0 D0 h4 D1 hl ho;go_enter func40,ntmps40;go_wp2_with (at_builtin;refine eu rfl _ _ 23 rfl rfl rfl hr ?_);go_ret;exact⟨_,rfl,fin.out⟩
theorem qy:prog.underlying 66=some (.slice 64):=by kernel_rfl
theorem AP:(prog.info? 64).map (λi=>(i.zero,i.size,i.bytes))=some (some (.agg #[.bool false,.int .u16 0,.int .u16 0,.int .u8 0,.int .u8 0]),5,8):=by kernel_rfl
theorem AQ{v:Value}{N:Nat}{cs:List Value}(w:World)(h:fM w.heap.size w v N 5 cs)(hs:N<=1048576) :
  Cl 42 #[v] w λe w'=>∃v',e=.returned v' /\ w'.ownsRow w 64 5 v' N cs /\ Below w w w':=by
 have q:∀(w:World) (a:Option Addr) (n c n' c':Nat),(binOp .eql 66 (.slice a n c) (.slice none n' c')).run prog w=.ok (.bool a.isNone) w:=λw a n c n' c'=>Lib.run_eql_slice_nil w _ _ a n c n' c' qy;obtain⟨i0,hi,hz0,hz1,hz2⟩:=info_parts AP;have D0:=Below.alN (Below.refl w w) (.cells #[] 64);have o0:(w.alloc (.cells #[] 64)).ownsRow w 64 5 (.slice (some ⟨w,0,none⟩) 0 0) 0 []:=World.ownsRow_made w #[] 0 (Nat.le_refl _) (Nat.zero_le _) (by simp);obtain⟨A,cap,rfl,h0,h1,h2,hl,ho,h3⟩:=h;cases A with
 | none =>
   have hN:N=0:=by
    by_cases hn:N=0
    ·exact hn
    ·obtain⟨_,_,e,_⟩:=h3 hn;cases e
   subst hN;have hcs:cs=[]:=List.length_eq_zero_iff.1 (by simpa using hl);subst hcs;clear h3 ho hl hs o0;go_enter func42,ntmps42;go_wp2_with fail;go_ret;exact⟨_,rfl,World.ownsRow_nil _ _ _ _,Below.refl _ _⟩
 | some ad =>
   obtain⟨v',w',hr,h4,h5,_⟩:=run_append_own (P:=prog) (w.alloc (.cells #[] 64)) w.heap.size 66 66 64 i0 _ 5 8 qy hi hz0 hz1 hz2 rfl (by decide) _ 0 [] o0 ad N cap cs hl (λj u hj=>by
    have hn:N≠0:=λe=>by
     subst e;have:cs=[]:=List.length_eq_zero_iff.1 (by simpa using hl);subst this;simp at hj
    obtain⟨b,o,e,hb,hr⟩:=h3 hn;cases e;rw[Addr.add_lit];exact(D0.cell (p:=⟨b,o+j,none⟩) hb).trans (hr j u hj)) ho (by unfold maxLen;omega) (by omega) (by simp)
   have D1:=Below.appC D0 o0 h5 (Nat.le_refl _) (by simp);simp only[List.nil_append,Nat.zero_add]at h4;have fin:Hid (w'.ownsRow w 64 5 v' N cs /\ Below w w w'):=⟨h4,D1⟩;clear h0 h1 h2 h3 h5 hs o0 D0 h4 D1 hl ho;go_enter func42,ntmps42;go_wp2_with (at_builtin;refine eu rfl _ _ 66 rfl rfl rfl hr ?_);go_ret;exact⟨_,rfl,fin.out⟩
theorem qz:prog.underlying 68=some (.slice 123):=by kernel_rfl
theorem AR:(prog.info? 123).map (λi=>(i.zero,i.size,i.bytes))=some (some (.agg #[.int .i64 0,.int .i64 0,.int .i64 0]),3,24):=by kernel_rfl
theorem AS{v:Value}{N:Nat}{cs:List Value}(w:World)(h:fM w.heap.size w v N 3 cs)(hs:N<=1048576) :
  Cl 43 #[v] w λe w'=>∃v',e=.returned v' /\ w'.ownsRow w 123 3 v' N cs /\ Below w w w':=by
 have q:∀(w:World) (a:Option Addr) (n c n' c':Nat),(binOp .eql 68 (.slice a n c) (.slice none n' c')).run prog w=.ok (.bool a.isNone) w:=λw a n c n' c'=>Lib.run_eql_slice_nil w _ _ a n c n' c' qz;obtain⟨i0,hi,hz0,hz1,hz2⟩:=info_parts AR;have D0:=Below.alN (Below.refl w w) (.cells #[] 123);have o0:(w.alloc (.cells #[] 123)).ownsRow w 123 3 (.slice (some ⟨w,0,none⟩) 0 0) 0 []:=World.ownsRow_made w #[] 0 (Nat.le_refl _) (Nat.zero_le _) (by simp);obtain⟨A,cap,rfl,h0,h1,h2,hl,ho,h3⟩:=h;cases A with
 | none =>
   have hN:N=0:=by
    by_cases hn:N=0
    ·exact hn
    ·obtain⟨_,_,e,_⟩:=h3 hn;cases e
   subst hN;have hcs:cs=[]:=List.length_eq_zero_iff.1 (by simpa using hl);subst hcs;clear h3 ho hl hs o0;go_enter func43,ntmps43;go_wp2_with fail;go_ret;exact⟨_,rfl,World.ownsRow_nil _ _ _ _,Below.refl _ _⟩
 | some ad =>
   obtain⟨v',w',hr,h4,h5,_⟩:=run_append_own (P:=prog) (w.alloc (.cells #[] 123)) w.heap.size 68 68 123 i0 _ 3 24 qz hi hz0 hz1 hz2 rfl (by decide) _ 0 [] o0 ad N cap cs hl (λj u hj=>by
    have hn:N≠0:=λe=>by
     subst e;have:cs=[]:=List.length_eq_zero_iff.1 (by simpa using hl);subst this;simp at hj
    obtain⟨b,o,e,hb,hr⟩:=h3 hn;cases e;rw[Addr.add_lit];exact(D0.cell (p:=⟨b,o+j,none⟩) hb).trans (hr j u hj)) ho (by unfold maxLen;omega) (by omega) (by simp)
   have D1:=Below.appC D0 o0 h5 (Nat.le_refl _) (by simp);simp only[List.nil_append,Nat.zero_add]at h4;have fin:Hid (w'.ownsRow w 123 3 v' N cs /\ Below w w w'):=⟨h4,D1⟩;clear h0 h1 h2 h3 h5 hs o0 D0 h4 D1 hl ho;go_enter func43,ntmps43;go_wp2_with (at_builtin;refine eu rfl _ _ 68 rfl rfl rfl hr ?_);go_ret;exact⟨_,rfl,fin.out⟩
theorem qA:prog.underlying 22=some (.slice 70):=by kernel_rfl
theorem AU:(prog.info? 70).map (λi=>(i.zero,i.size,i.bytes))=some (some (.agg #[.string ⟨#[]⟩,.int .i64 0,.int .i64 0,.int .u8 0,.slice none 0 0,.slice none 0 0,.slice none 0 0]),7,112):=by kernel_rfl
theorem AV{v:Value}{N:Nat}{cs:List Value}(w:World)(h:fM w.heap.size w v N 7 cs)(hs:N<=1048576) :
  Cl 72 #[v] w λe w'=>∃v',e=.returned v' /\ w'.ownsRow w 70 7 v' N cs /\ Below w w w':=by
 have q:∀(w:World) (a:Option Addr) (n c n' c':Nat),(binOp .eql 22 (.slice a n c) (.slice none n' c')).run prog w=.ok (.bool a.isNone) w:=λw a n c n' c'=>Lib.run_eql_slice_nil w _ _ a n c n' c' qA;obtain⟨i0,hi,hz0,hz1,hz2⟩:=info_parts AU;have D0:=Below.alN (Below.refl w w) (.cells #[] 70);have o0:(w.alloc (.cells #[] 70)).ownsRow w 70 7 (.slice (some ⟨w,0,none⟩) 0 0) 0 []:=World.ownsRow_made w #[] 0 (Nat.le_refl _) (Nat.zero_le _) (by simp);obtain⟨A,cap,rfl,h0,h1,h2,hl,ho,h3⟩:=h;cases A with
 | none =>
   have hN:N=0:=by
    by_cases hn:N=0
    ·exact hn
    ·obtain⟨_,_,e,_⟩:=h3 hn;cases e
   subst hN;have hcs:cs=[]:=List.length_eq_zero_iff.1 (by simpa using hl);subst hcs;clear h3 ho hl hs o0;go_enter func72,ntmps72;go_wp2_with fail;go_ret;exact⟨_,rfl,World.ownsRow_nil _ _ _ _,Below.refl _ _⟩
 | some ad =>
   obtain⟨v',w',hr,h4,h5,_⟩:=run_append_own (P:=prog) (w.alloc (.cells #[] 70)) w.heap.size 22 22 70 i0 _ 7 112 qA hi hz0 hz1 hz2 rfl (by decide) _ 0 [] o0 ad N cap cs hl (λj u hj=>by
    have hn:N≠0:=λe=>by
     subst e;have:cs=[]:=List.length_eq_zero_iff.1 (by simpa using hl);subst this;simp at hj
    obtain⟨b,o,e,hb,hr⟩:=h3 hn;cases e;rw[Addr.add_lit];exact(D0.cell (p:=⟨b,o+j,none⟩) hb).trans (hr j u hj)) ho (by unfold maxLen;omega) (by omega) (by simp)
   have D1:=Below.appC D0 o0 h5 (Nat.le_refl _) (by simp);simp only[List.nil_append,Nat.zero_add]at h4;have fin:Hid (w'.ownsRow w 70 7 v' N cs /\ Below w w w'):=⟨h4,D1⟩;clear h0 h1 h2 h3 h5 hs o0 D0 h4 D1 hl ho;go_enter func72,ntmps72;go_wp2_with (at_builtin;refine eu rfl _ _ 22 rfl rfl rfl hr ?_);go_ret;exact⟨_,rfl,fin.out⟩
theorem lH{w w':World}{b o:Nat}(h:w'.heap[b]?=w.heap[b]?):w'.cell? ⟨b,o,none⟩=w.cell? ⟨b,o,none⟩:=by
 unfold World.cell?;rw[h]
def NotB(k:Nat)(v:Value):Prop:=∀b o n c,v=.slice (some ⟨b,o,none⟩) n c->n≠0->b≠k
def NotIn(lo hi:Nat)(v:Value):Prop:=∀b o n c,v=.slice (some ⟨b,o,none⟩) n c->n≠0->b<lo\/hi<=b
theorem NotIn.b{lo hi k:Nat}{v:Value}(h:NotIn lo hi v)(h1:lo<=k)(h2:k<hi):NotB k v:=λb o n c e hn=>by
 have:=h b o n c e hn;omega
theorem SlAt.setB{α:Type}{a9 n k j:Nat}{w:World}{R:List Value->α->Prop}{v u:Value}{xs:List α}(h:SlAt a9 w n R v xs)(hn:NotB k v):SlAt a9 (w.setCell ⟨k,j,none⟩ u) n R v xs:=by
 obtain⟨A,cap,rfl,h0,h1,h2,h3⟩:=h;refine⟨A,cap,rfl,h0,h1,h2,λhx=>?_⟩;obtain⟨b,o,rfl,hl,hr⟩:=h3 hx;have hb:b≠k:=hn b o _ _ rfl (λe=>hx (List.length_eq_zero_iff.1 e));refine⟨b,o,rfl,hl,λi x hi=>?_⟩;obtain⟨cs,c1,c2,c3⟩:=hr i x hi;exact⟨cs,c1,c2,λj' u' hj=>(lH (Below.heap_setCell w ⟨k,j,none⟩ u b hb)).trans (c3 j' u' hj)⟩
theorem SlAt.notIn{α:Type}{a9 n hi:Nat}{w:World}{R:List Value->α->Prop}{v:Value}{xs:List α}(h:SlAt a9 w n R v xs):NotIn a9 hi v:=λb o m c e hn=>by
 obtain⟨A,cap,rfl,h0,h1,h2,h3⟩:=h;obtain⟨b',o',e',hl,_⟩:=h3 (λe0=>hn (by cases e;rw[e0];rfl));cases e;cases e';exact .inl hl
theorem jO{a9 lo hi n N:Nat}{t:TypeId}{w:World}{v:Value}{cs:List Value}(h:w.ownsRow a9 t n v N cs)(hb:hi<=a9):NotIn lo hi v:=λb o m c e hn=>by
 rcases h.2 with⟨rfl,_⟩|⟨g,cap,cur,rfl,hg,_⟩
 ·cases e
 ·cases e;exact .inr (by omega)
def DvRow(lo hi g:Nat)(w:World)(ds:List Dv):Prop:=∀k d,ds[k]?=some d->∃vb vr vt,(w.cell? ⟨g,k*7,none⟩=some (.string d.name) /\ w.cell? ⟨g,k*7+1,none⟩=some (.int .i64 d.kind) /\ w.cell? ⟨g,k*7+2,none⟩=some (.int .i64 d.addr) /\ w.cell? ⟨g,k*7+3,none⟩=some (.int .u8 (d.pool:Int)) /\ w.cell? ⟨g,k*7+4,none⟩=some vb /\ w.cell? ⟨g,k*7+5,none⟩=some vr /\ w.cell? ⟨g,k*7+6,none⟩=some vt) /\ (SlAt w w 1 IsI vb d.backs /\ SlAt w w 5 aY vr d.rules /\ SlAt w w 3 br vt d.routes) /\ NotIn lo hi vb /\ NotIn lo hi vr /\ NotIn lo hi vt
theorem lI{w:World}{a:Addr}{u v:Value}(h:w.cell? a=some v):(w.setCell a u).cell? a=some u:=by
 have hs:=nS h;obtain⟨b,o,sp⟩:=a;simp only at hs;subst hs;simp[go_sem,h]
theorem aG{w:World}{b i j:Nat}{u:Value}(h:i≠j):(w.setCell ⟨b,j,none⟩ u).cell? ⟨b,i,none⟩=w.cell? ⟨b,i,none⟩:=by
 simp[go_sem]
section
variable {lo hi g:Nat}{w w':World}{ds:List Dv}
theorem DvRow.below(h:DvRow lo hi g w ds)(hb:Below w w w'):DvRow lo hi g w' ds:=λk d hk=>by
 obtain⟨vb,vr,vt,⟨c0,c1,c2,c3,c4,c5,c6⟩,⟨s1,s2,s3⟩,n1,n2,n3⟩:=h k d hk;have C:=λ{o:Nat} {v:Value} (hc:w.cell? ⟨g,o,none⟩=some v)=>(hb.cell (World.block_lt_of_cell? w _ hc)).trans hc;exact⟨vb,vr,vt,⟨C c0,C c1,C c2,C c3,C c4,C c5,C c6⟩,⟨SlAt.mono (SlAt.below s1 hb (λ_ _ _ h=>h)) hb.size (λ_ _ _ h=>h),SlAt.mono (SlAt.below s2 hb (λ_ _ _ h=>h)) hb.size (λ_ _ _ h=>h),SlAt.mono (SlAt.below s3 hb (λ_ _ _ h=>h)) hb.size (λ_ _ _ h=>h)⟩,n1,n2,n3⟩
theorem DvRow.other(h:DvRow lo hi g w ds){k j:Nat}{u:Value}(hne:g≠k)(h1:lo<=k)(h2:k<hi):DvRow lo hi g (w.setCell ⟨k,j,none⟩ u) ds:=λi d hi'=>by
 obtain⟨vb,vr,vt,⟨c0,c1,c2,c3,c4,c5,c6⟩,⟨s1,s2,s3⟩,n1,n2,n3⟩:=h i d hi';have C:=λ{o:Nat} {v:Value} (hc:w.cell? ⟨g,o,none⟩=some v)=>(lH (o:=o) (Below.heap_setCell w ⟨k,j,none⟩ u g hne)).trans hc;have sz:(w.setCell ⟨k,j,none⟩ u).heap.size=w.heap.size:=by simp[World.setCell]
 rw[sz];exact⟨vb,vr,vt,⟨C c0,C c1,C c2,C c3,C c4,C c5,C c6⟩,⟨s1.setB (n1.b h1 h2),s2.setB (n2.b h1 h2),s3.setB (n3.b h1 h2)⟩,n1,n2,n3⟩
theorem DvRow.set4(h:DvRow lo hi g w ds){k:Nat}{d:Dv}{u:Value}(hk:ds[k]?=some d)(hs:SlAt w w 1 IsI u d.backs)(hn:NotIn lo hi u)(h1:lo<=g)(h2:g<hi):DvRow lo hi g (w.setCell ⟨g,k*7+4,none⟩ u) ds:=λi d' hi'=>by
 have sz:(w.setCell ⟨g,k*7+4,none⟩ u).heap.size=w.heap.size:=by simp[World.setCell]
 rw[sz];by_cases e:i=k
 ·subst e;rw[hk]at hi';obtain rfl:=Option.some.inj hi';obtain⟨vb,vr,vt,⟨c0,c1,c2,c3,c4,c5,c6⟩,⟨s1,s2,s3⟩,n1,n2,n3⟩:=h i d hk;exact⟨u,vr,vt,⟨(aG (by omega)).trans c0,(aG (by omega)).trans c1,(aG (by omega)).trans c2,(aG (by omega)).trans c3,(lI c4),(aG (by omega)).trans c5,(aG (by omega)).trans c6⟩,⟨hs.setB (hn.b h1 h2),s2.setB (n2.b h1 h2),s3.setB (n3.b h1 h2)⟩,hn,n2,n3⟩
 ·obtain⟨vb,vr,vt,⟨e0,e1,e2,e3,e4,e5,e6⟩,⟨s1,s2,s3⟩,n1,n2,n3⟩:=h i d' hi';exact⟨vb,vr,vt,⟨(aG (by omega)).trans e0,(aG (by omega)).trans e1,(aG (by omega)).trans e2,(aG (by omega)).trans e3,(aG (by omega)).trans e4,(aG (by omega)).trans e5,(aG (by omega)).trans e6⟩,⟨s1.setB (n1.b h1 h2),s2.setB (n2.b h1 h2),s3.setB (n3.b h1 h2)⟩,n1,n2,n3⟩
theorem DvRow.set5(h:DvRow lo hi g w ds){k:Nat}{d:Dv}{u:Value}(hk:ds[k]?=some d)(hs:SlAt w w 5 aY u d.rules)(hn:NotIn lo hi u)(h1:lo<=g)(h2:g<hi):DvRow lo hi g (w.setCell ⟨g,k*7+5,none⟩ u) ds:=λi d' hi'=>by
 have sz:(w.setCell ⟨g,k*7+5,none⟩ u).heap.size=w.heap.size:=by simp[World.setCell]
 rw[sz];by_cases e:i=k
 ·subst e;rw[hk]at hi';obtain rfl:=Option.some.inj hi';obtain⟨vb,vr,vt,⟨c0,c1,c2,c3,c4,c5,c6⟩,⟨s1,s2,s3⟩,n1,n2,n3⟩:=h i d hk;exact⟨vb,u,vt,⟨(aG (by omega)).trans c0,(aG (by omega)).trans c1,(aG (by omega)).trans c2,(aG (by omega)).trans c3,(aG (by omega)).trans c4,(lI c5),(aG (by omega)).trans c6⟩,⟨s1.setB (n1.b h1 h2),hs.setB (hn.b h1 h2),s3.setB (n3.b h1 h2)⟩,n1,hn,n3⟩
 ·obtain⟨vb,vr,vt,⟨e0,e1,e2,e3,e4,e5,e6⟩,⟨s1,s2,s3⟩,n1,n2,n3⟩:=h i d' hi';exact⟨vb,vr,vt,⟨(aG (by omega)).trans e0,(aG (by omega)).trans e1,(aG (by omega)).trans e2,(aG (by omega)).trans e3,(aG (by omega)).trans e4,(aG (by omega)).trans e5,(aG (by omega)).trans e6⟩,⟨s1.setB (n1.b h1 h2),s2.setB (n2.b h1 h2),s3.setB (n3.b h1 h2)⟩,n1,n2,n3⟩
theorem DvRow.set6(h:DvRow lo hi g w ds){k:Nat}{d:Dv}{u:Value}(hk:ds[k]?=some d)(hs:SlAt w w 3 br u d.routes)(hn:NotIn lo hi u)(h1:lo<=g)(h2:g<hi):DvRow lo hi g (w.setCell ⟨g,k*7+6,none⟩ u) ds:=λi d' hi'=>by
 have sz:(w.setCell ⟨g,k*7+6,none⟩ u).heap.size=w.heap.size:=by simp[World.setCell]
 rw[sz];by_cases e:i=k
 ·subst e;rw[hk]at hi';obtain rfl:=Option.some.inj hi';obtain⟨vb,vr,vt,⟨c0,c1,c2,c3,c4,c5,c6⟩,⟨s1,s2,s3⟩,n1,n2,n3⟩:=h i d hk;exact⟨vb,vr,u,⟨(aG (by omega)).trans c0,(aG (by omega)).trans c1,(aG (by omega)).trans c2,(aG (by omega)).trans c3,(aG (by omega)).trans c4,(aG (by omega)).trans c5,(lI c6)⟩,⟨s1.setB (n1.b h1 h2),s2.setB (n2.b h1 h2),hs.setB (hn.b h1 h2)⟩,n1,n2,hn⟩
 ·obtain⟨vb,vr,vt,⟨e0,e1,e2,e3,e4,e5,e6⟩,⟨s1,s2,s3⟩,n1,n2,n3⟩:=h i d' hi';exact⟨vb,vr,vt,⟨(aG (by omega)).trans e0,(aG (by omega)).trans e1,(aG (by omega)).trans e2,(aG (by omega)).trans e3,(aG (by omega)).trans e4,(aG (by omega)).trans e5,(aG (by omega)).trans e6⟩,⟨s1.setB (n1.b h1 h2),s2.setB (n2.b h1 h2),s3.setB (n3.b h1 h2)⟩,n1,n2,n3⟩
end
theorem DvRow.devs{lo hi g:Nat}{w:World}{ds:List Dv}{cap:Nat}(h:DvRow lo hi g w ds)(hg:g<w.heap.size)(h1:ds.length<=cap)(h2:cap<=maxLen):Devs w w (.slice g ds.length cap) ds:=by
 refine⟨_,cap,rfl,(λe=>by cases e),h1,h2,λ_=>⟨g,0,rfl,hg,λk d hk=>?_⟩⟩;obtain⟨vb,vr,vt,⟨c0,c1,c2,c3,c4,c5,c6⟩,⟨s1,s2,s3⟩,_⟩:=h k d hk;refine⟨[.string d.name,.int .i64 d.kind,.int .i64 d.addr,.int .u8 (d.pool:Int),vb,vr,vt],rfl,⟨vb,vr,vt,rfl,s1,s2,s3⟩,λj u hj=>?_⟩;rw[Nat.zero_add]
 match j,hj with
 | 0,hj=>obtain rfl:=Option.some.inj hj;exact c0
 | 1,hj=>obtain rfl:=Option.some.inj hj;exact c1
 | 2,hj=>obtain rfl:=Option.some.inj hj;exact c2
 | 3,hj=>obtain rfl:=Option.some.inj hj;exact c3
 | 4,hj=>obtain rfl:=Option.some.inj hj;exact c4
 | 5,hj=>obtain rfl:=Option.some.inj hj;exact c5
 | 6,hj=>obtain rfl:=Option.some.inj hj;exact c6
def IsB(w:World)(g:Nat):Prop:=∃cs t,Bk w g cs t
theorem IsB.below{w w':World}{g:Nat}(h:IsB w g)(hb:Below w w w'):IsB w' g:=by
 obtain⟨cs,t,h⟩:=h;exact⟨cs,t,h.keep hb⟩
theorem IsB.set{w:World}{g k j:Nat}{u:Value}(h:IsB w g):IsB (w.setCell ⟨k,j,none⟩ u) g:=by
 obtain⟨cs,t,h⟩:=h;by_cases e:g=k
 ·subst e;exact⟨_,t,h.setS u⟩
 ·exact⟨cs,t,h.setO e u⟩
theorem IsB.fz{w:World}{g:Nat}(h:IsB w g)(o:Nat):w.frozen? ⟨g,o,none⟩=false:=by
 obtain⟨cs,t,h⟩:=h;exact h.fz o
def Fresh(lo:Nat)(w:World)(A:Option Addr)(cap:Nat)(w0:World)(ds:List Dv):Prop :=
 (A=none->cap=0) /\ ds.length<=cap /\ cap<=maxLen /\ (ds.length≠0->∃g,A=some ⟨g,0,none⟩ /\ lo<=g /\ g<w.heap.size /\ IsB w g /\ ∀k d,ds[k]?=some d->∃vb vr vt,(w.cell? ⟨g,k*7,none⟩=some (.string d.name) /\ w.cell? ⟨g,k*7+1,none⟩=some (.int .i64 d.kind) /\ w.cell? ⟨g,k*7+2,none⟩=some (.int .i64 d.addr) /\ w.cell? ⟨g,k*7+3,none⟩=some (.int .u8 (d.pool:Int)) /\ w.cell? ⟨g,k*7+4,none⟩=some vb /\ w.cell? ⟨g,k*7+5,none⟩=some vr /\ w.cell? ⟨g,k*7+6,none⟩=some vt) /\ (SlAt w0 w0 1 IsI vb d.backs /\ SlAt w0 w0 5 aY vr d.rules /\ SlAt w0 w0 3 br vt d.routes))
theorem Fresh.below{lo:Nat}{w w' w0:World}{A:Option Addr}{cap:Nat}{ds:List Dv}(h:Fresh lo w A cap w0 ds)(hb:Below w w w'):Fresh lo w' A cap w0 ds:=by
 obtain⟨h0,h1,h2,h3⟩:=h;refine⟨h0,h1,h2,λhn=>?_⟩;obtain⟨g,e,hl,hg,hB,hr⟩:=h3 hn;refine⟨g,e,hl,Nat.lt_of_lt_of_le hg hb.size,hB.below hb,λk d hk=>?_⟩;obtain⟨vb,vr,vt,⟨c0,c1,c2,c3,c4,c5,c6⟩,s⟩:=hr k d hk;have C:=λ{o:Nat} {v:Value} (hc:w.cell? ⟨g,o,none⟩=some v)=>(hb.cell (World.block_lt_of_cell? w _ hc)).trans hc;exact⟨vb,vr,vt,⟨C c0,C c1,C c2,C c3,C c4,C c5,C c6⟩,s⟩
theorem Fresh.set{lo k j:Nat}{w w0:World}{A:Option Addr}{cap:Nat}{ds:List Dv}{u:Value}(h:Fresh lo w A cap w0 ds)(hne:∀g',A=some ⟨g',0,none⟩->ds.length≠0->g'≠k):Fresh lo (w.setCell ⟨k,j,none⟩ u) A cap w0 ds:=by
 obtain⟨h0,h1,h2,h3⟩:=h;refine⟨h0,h1,h2,λhn=>?_⟩;obtain⟨g,e,hl,hg,hB,hr⟩:=h3 hn;have hgk:=hne g e hn;refine⟨g,e,hl,by simpa[World.setCell]using hg,hB.set,λk' d hk=>?_⟩;obtain⟨vb,vr,vt,⟨c0,c1,c2,c3,c4,c5,c6⟩,s⟩:=hr k' d hk;have C:=λ{o:Nat} {v:Value} (hc:w.cell? ⟨g,o,none⟩=some v)=>(lH (o:=o) (Below.heap_setCell w ⟨k,j,none⟩ u g hgk)).trans hc;exact⟨vb,vr,vt,⟨C c0,C c1,C c2,C c3,C c4,C c5,C c6⟩,s⟩
theorem Fresh.lo{lo lo':Nat}{w w0:World}{A:Option Addr}{cap:Nat}{ds:List Dv}(h:Fresh lo w A cap w0 ds)(hl:lo'<=lo):Fresh lo' w A cap w0 ds:=by
 obtain⟨h0,h1,h2,h3⟩:=h;refine⟨h0,h1,h2,λhn=>?_⟩;obtain⟨g,e,hg,r⟩:=h3 hn;exact⟨g,e,by omega,r⟩
theorem Fresh.lt{lo:Nat}{w w0:World}{A:Option Addr}{cap:Nat}{ds:List Dv}(h:Fresh lo w A cap w0 ds){g':Nat}(e:A=some ⟨g',0,none⟩)(hn:ds.length≠0):lo<=g' /\ g'<w.heap.size:=by
 obtain⟨g,e',h1,h2,_⟩:=h.2.2.2 hn;rw[e]at e';cases e';exact⟨h1,h2⟩
theorem Fresh.row{lo hi:Nat}{w w0:World}{A:Option Addr}{cap:Nat}{ds:List Dv}(h:Fresh lo w A cap w0 ds)(hb:Below w0 w0 w)(hn:ds.length≠0):∃g,A=some ⟨g,0,none⟩ /\ lo<=g /\ g<w.heap.size /\ IsB w g /\ DvRow w0.heap.size hi g w ds:=by
 obtain⟨g,e,hl,hg,hB,hr⟩:=h.2.2.2 hn;refine⟨g,e,hl,hg,hB,λk d hk=>?_⟩;obtain⟨vb,vr,vt,c,⟨s1,s2,s3⟩⟩:=hr k d hk;exact⟨vb,vr,vt,c,⟨SlAt.mono (SlAt.below s1 hb (λ_ _ _ h=>h)) hb.size (λ_ _ _ h=>h),SlAt.mono (SlAt.below s2 hb (λ_ _ _ h=>h)) hb.size (λ_ _ _ h=>h),SlAt.mono (SlAt.below s3 hb (λ_ _ _ h=>h)) hb.size (λ_ _ _ h=>h)⟩,s1.notIn,s2.notIn,s3.notIn⟩
theorem AW{v:Value}{ds:List Dv}{w0:World}(W:World)(h:Devs w0 w0 v ds)(hb:Below w0 w0 W)(hs:ds.length<=1048576) :
  Cl 72 #[v] W λe w'=>∃A cap,e=.returned (.slice A ds.length cap) /\ Fresh W.heap.size w' A cap w0 ds /\ Below W W w':=by
 obtain⟨cs,hr,hf⟩:=SlAt.row h (λcs x hx=>oneDv cs x hx);have hr':fM W.heap.size W v ds.length 7 cs:=by
  obtain⟨A,cap,e,h0,h1,h2,hl,ho,h3⟩:=hr;refine⟨A,cap,e,h0,h1,h2,hl,ho,λhn=>?_⟩;obtain⟨b,o,ea,hlt,hc⟩:=h3 hn;exact⟨b,o,ea,Nat.lt_of_lt_of_le hlt hb.size,λj u hj=>(hb.cell (p:=⟨b,o+j,none⟩) hlt).trans (hc j u hj)⟩
 refine(AV W hr' hs).mono λe w' ⟨v',he,how,hbw⟩=>?_;have hs':=SlAt.own (R:=λcs d=>∃w1:World,w1=w0 /\ IsDv w0.heap.size w1 cs d) how (λk x hx=>⟨w0,rfl,hf k x hx⟩);obtain⟨A,cap,rfl,h0,h1,h2,h3⟩:=hs';refine⟨A,cap,he,⟨h0,h1,h2,λhn=>?_⟩,hbw⟩;obtain⟨b,o,ea,hlt,hc⟩:=h3 (λe0=>hn (by rw[e0];rfl));rcases how.2 with⟨hv,_⟩|⟨g,e9,cur,hv,hg,hcur,_⟩
 ·rw[ea]at hv;cases hv
 ·rw[ea]at hv;simp only[Value.slice.injEq,Option.some.injEq,Addr.mk.injEq,and_true,true_and]at hv;obtain⟨⟨rfl,rfl⟩,_⟩:=hv;refine⟨b,ea,hg,hlt,⟨_,_,hcur⟩,λk d hk=>?_⟩;obtain⟨c,_,⟨w1,rfl,vb,vr,vt,rfl,s1,s2,s3⟩,hcc⟩:=hc k d hk;simp only[Nat.zero_add]at hcc;exact⟨vb,vr,vt,⟨hcc 0 _ rfl,hcc 1 _ rfl,hcc 2 _ rfl,hcc 3 _ rfl,hcc 4 _ rfl,hcc 5 _ rfl,hcc 6 _ rfl⟩,⟨s1,s2,s3⟩⟩
theorem AX{v:Value}{xs:List Int}(W:World)(h:SlAt W W 1 IsI v xs)(hs:xs.length<=1048576) :
  Cl 41 #[v] W λe w'=>∃A cap,e=.returned (.slice A xs.length cap) /\ SlAt w' w' 1 IsI (.slice A xs.length cap) xs /\ (∀lo hi,hi<=W.heap.size->NotIn lo hi (.slice A xs.length cap)) /\ Below W W w':=by
 obtain⟨cs,hr,hf⟩:=SlAt.row h (λcs x hx=>oneI cs x hx);refine(AJ W hr hs).mono λe w' ⟨v',he,how,hbw⟩=>?_;have hs':=SlAt.own (R:=IsI) how hf;obtain⟨A,cap,rfl,h0⟩:=id hs';exact⟨A,cap,he,hs',λlo hi hh=>jO how hh,hbw⟩
theorem AY{v:Value}{xs:List NRule}(W:World)(h:SlAt W W 5 aY v xs)(hs:xs.length<=1048576) :
  Cl 42 #[v] W λe w'=>∃A cap,e=.returned (.slice A xs.length cap) /\ SlAt w' w' 5 aY (.slice A xs.length cap) xs /\ (∀lo hi,hi<=W.heap.size->NotIn lo hi (.slice A xs.length cap)) /\ Below W W w':=by
 obtain⟨cs,hr,hf⟩:=SlAt.row h (λcs x hx=>oneRule cs x hx);refine(AQ W hr hs).mono λe w' ⟨v',he,how,hbw⟩=>?_;have hs':=SlAt.own (R:=aY) how hf;obtain⟨A,cap,rfl,h0⟩:=id hs';exact⟨A,cap,he,hs',λlo hi hh=>jO how hh,hbw⟩
theorem AZ{v:Value}{xs:List NRoute}(W:World)(h:SlAt W W 3 br v xs)(hs:xs.length<=1048576) :
  Cl 43 #[v] W λe w'=>∃A cap,e=.returned (.slice A xs.length cap) /\ SlAt w' w' 3 br (.slice A xs.length cap) xs /\ (∀lo hi,hi<=W.heap.size->NotIn lo hi (.slice A xs.length cap)) /\ Below W W w':=by
 obtain⟨cs,hr,hf⟩:=SlAt.row h (λcs x hx=>oneRoute cs x hx);refine(AS W hr hs).mono λe w' ⟨v',he,how,hbw⟩=>?_;have hs':=SlAt.own (R:=br) how hf;obtain⟨A,cap,rfl,h0⟩:=id hs';exact⟨A,cap,he,hs',λlo hi hh=>jO how hh,hbw⟩
theorem Ba{v:Value}{xs:List Lk}(W:World)(h:SlAt W W 4 dc v xs)(hs:xs.length<=1048576) :
  Cl 40 #[v] W λe w'=>∃A cap,e=.returned (.slice A xs.length cap) /\ SlAt w' w' 4 dc (.slice A xs.length cap) xs /\ (∀lo hi,hi<=W.heap.size->NotIn lo hi (.slice A xs.length cap)) /\ Below W W w':=by
 obtain⟨cs,hr,hf⟩:=SlAt.row h (λcs x hx=>oneLk cs x hx);refine(AM W hr hs).mono λe w' ⟨v',he,how,hbw⟩=>?_;have hs':=SlAt.own (R:=dc) how hf;obtain⟨A,cap,rfl,h0⟩:=id hs';exact⟨A,cap,he,hs',λlo hi hh=>jO how hh,hbw⟩
structure Small(ds:List Dv)(ls:List Lk):Prop where
 nd:ds.length<=1048576
 nl:ls.length<=1048576
 backs:∀d∈ds,d.backs.length<=1048576
 rules:∀d∈ds,d.rules.length<=1048576
 routes:∀d∈ds,d.routes.length<=1048576
def lJ(w:World)(ds:List Dv)(ls:List Lk)(e:Ending)(w':World):Prop :=
 ∃A cap B e9,e=.returned (.agg #[.slice A ds.length cap,.slice B ls.length e9]) /\ Devs w' w' (.slice A ds.length cap) ds /\ Links w' w' (.slice B ls.length e9) ls /\ Below w w w'
theorem NotB.of{k:Nat}{v:Value}(h:∀lo hi,hi<=k+1->NotIn lo hi v):NotB k v:=(h 0 (k+1) (Nat.le_refl _)).b (Nat.zero_le _) (Nat.lt_succ_self _)
theorem qB(A B:Option Addr)(cap e9:Nat)(ds:List Dv)(ls:List Lk)(w:World)(hD:Hid (Devs w w (.slice A ds.length cap) ds))(hL:Hid (Links w w (.slice B ls.length e9) ls))(hS:Hid (Small ds ls)) :
  Cl 36 #[.agg #[.slice A ds.length cap,.slice B ls.length e9]] w (lJ w ds ls):=by
 have hsz:=hS.out.nd;have CD:Hid (∀W,Below w w W->Cl 72 #[.slice A ds.length cap] W λe w'=>∃A cap,e=.returned (.slice A ds.length cap) /\ Fresh W.heap.size w' A cap w ds /\ Below W W w'):=λW h=>AW W hD.out h hS.out.nd;have CL:Hid (∀W,Below w w W->Cl 40 #[.slice B ls.length e9] W λe w'=>∃A cap,e=.returned (.slice A ls.length cap) /\ SlAt w' w' 4 dc (.slice A ls.length cap) ls /\ (∀lo hi,hi<=W.heap.size->NotIn lo hi (.slice A ls.length cap)) /\ Below W W w'):=λW h=>Ba W ((hL.out.below h).mono h.size) hS.out.nl;have D2:=Below.alN (Below.alN (Below.refl w w) (.cells #[.slice A ds.length cap,.slice B ls.length e9] 25)) (.cells #[.slice none 0 0,.slice none 0 0] 25);have N2:=(ah w #[.slice A ds.length cap,.slice B ls.length e9] 25).alloc (.cells #[.slice none 0 0,.slice none 0 0] 25);have R2:=ax (w.alloc (.cells #[.slice A ds.length cap,.slice B ls.length e9] 25)) #[.slice none 0 0,.slice none 0 0] 25 (w.heap.size+1) (by simp);have S2:=N2.two;have D2d:=D2.drew;have N2d:=N2.drew;have R2d:=R2.drew;have D2a:=(Below.alN D2 (.cells #[.slice none 0 0,.slice none 0 0] 25)).drew;have N2a:=(N2.alloc (.cells #[.slice none 0 0,.slice none 0 0] 25)).drew;have R2a:=(R2.alloc (.cells #[.slice none 0 0,.slice none 0 0] 25)).drew;have G2a:=(ax ((w.alloc (.cells #[.slice A ds.length cap,.slice B ls.length e9] 25)).alloc (.cells #[.slice none 0 0,.slice none 0 0] 25)) #[.slice none 0 0,.slice none 0 0] 25 (w.heap.size+1+1) (by simp)).drew;clear hD hL;obtain⟨n0,n1⟩:=S2;go_enter func36,ntmps36;go_wp2_with fail;go_cut [3] (λv3 wx=>∃g A1 c1 B1 c2,v3=.pointer (some ⟨g,0,none⟩) /\ Bk wx g #[.slice A1 ds.length c1,.slice B1 ls.length c2] 25 /\ w.heap.size+1<g /\ Fresh (w.heap.size+1+1) wx A1 c1 w ds /\ (∀g',A1=some ⟨g',0,none⟩->ds.length≠0->g'≠g) /\ SlAt wx wx 4 dc (.slice B1 ls.length c2) ls /\ NotB g (.slice B1 ls.length c2) /\ NotB (w.heap.size+1) (.slice B1 ls.length c2) /\ (∀g',A1=some ⟨g',0,none⟩->ds.length≠0->NotB g' (.slice B1 ls.length c2)) /\ Bk wx (w.heap.size+1) #[.slice none 0 0,.slice none 0 0] 25 /\ Below w w wx)
 case first =>
  go_region_held3 (λw'=>w'.cell? ⟨w,0,none⟩=some (.slice A ds.length cap) /\ w'.cell? ⟨w,1,none⟩=some (.slice B ls.length e9)) (first|exact Bk.two (by first|assumption|exact Bk.alloc ‹_› _)|exact Bk.two ((N6.setO (by omega) _).setO (by omega) _)) (first|(go_at_call 72;refine(CD.out _ D2d).mono ?_;rintro e w5⟨A1,c1,rfl,F5,hb5⟩;have D5:=aa hb5 D2d;have N5:=N2d.keep hb5;have R5:=R2d.keep hb5;have z5:=R5.lt;have F5l:=F5.lo (lo':=w.heap.size+1+1) (by simp))|(go_at_call 72;refine(CD.out _ D2a).mono ?_;rintro e w5⟨A1,c1,rfl,F5,hb5⟩;have D5:=aa hb5 D2a;have N5:=N2a.keep hb5;have R5:=R2a.keep hb5;have G5:=G2a.keep hb5;have z5:=G5.lt;have F5l:=F5.lo (lo':=w.heap.size+1+1+1) (by simp))|(go_at_call 40;refine(CL.out _ D5).mono ?_;rintro e w6⟨B1,c2,rfl,K6,Z6,hb6⟩;have D6:=aa hb6 D5;have N6:=N5.keep hb6;have R6:=R5.keep hb6;have F6:=F5l.below hb6;have G6:=G5.keep hb6;have gf0:=G6.fz 0;have gf1:=G6.fz 1;obtain⟨gg0,gg1⟩:=G6.two)|(go_at_call 40;refine(CL.out _ D5).mono ?_;rintro e w6⟨B1,c2,rfl,K6,Z6,hb6⟩;have D6:=aa hb6 D5;have N6:=N5.keep hb6;have R6:=R5.keep hb6;have F6:=F5l.below hb6)|(go_at_call 40;refine(CL.out _ (Below.alN D5 (.cells #[.slice none 0 0,.slice none 0 0] 25))).mono ?_;rintro e w6⟨B1,c2,rfl,K6,Z6,hb6⟩;have D6:=aa hb6 (Below.alN D5 (.cells #[.slice none 0 0,.slice none 0 0] 25));have N6:=(N5.alloc (.cells #[.slice none 0 0,.slice none 0 0] 25)).keep hb6;have R6:=(R5.alloc (.cells #[.slice none 0 0,.slice none 0 0] 25)).keep hb6;have F6:=(F5l.below ((Below.refl _ _).alloc (Nat.le_refl _) (.cells #[.slice none 0 0,.slice none 0 0] 25))).below hb6;have G6:=(ah w5 #[.slice none 0 0,.slice none 0 0] 25).keep hb6;have gf0:=G6.fz 0;have gf1:=G6.fz 1;obtain⟨gg0,gg1⟩:=G6.two))
  all_goals
   go_wp2_with fail
   go_meet
   have y6:=hb6.size;first
    | exact⟨_,_,_,_,_,rfl,ah w6 _ _,(by omega),F6.below ((Below.refl _ _).alloc (Nat.le_refl _) _),(λg' e hn=>by have:=F6.lt e hn;omega),SlAt.mono (SlAt.below K6 ((Below.refl _ w6).alloc (Nat.le_refl _) _) (λ_ _ _ h=>h)) (by simp) (λ_ _ _ h=>h),(λb o n c e hn=>by have:=(Z6 0 w5.heap.size (by simp) b o n c e hn);have q:=SlAt.notIn (hi:=w6.heap.size+1) K6 b o n c e hn;omega),NotB.of (λlo hi h=>Z6 lo hi (by omega)),(λg' e hn=>NotB.of (λlo hi h=>Z6 lo hi (by have:=F5l.lt e hn;omega))),R6.alloc _,Below.alN D6 _⟩
    | ((try simp only[World.size_alloc]at y6 Z6)
       exact⟨_,_,_,_,_,rfl,(by have:=(G6.setS (j:=0) (.slice A1 ds.length c1)).setS (j:=1) (.slice B1 ls.length c2);simpa using this),(by omega),((F6.set (λg' e hn=>by have:=F5l.lt e hn;omega)).set (λg' e hn=>by have:=F5l.lt e hn;omega)).lo (by omega),(λg' e hn=>by have:=F5l.lt e hn;omega),(by have:=(K6.setB (k:=w.heap.size+1+1) (j:=0) (u:=.slice A1 ds.length c1) (NotB.of (λlo hi h=>Z6 lo hi (by omega)))).setB (k:=w.heap.size+1+1) (j:=1) (u:=.slice B1 ls.length c2) (NotB.of (λlo hi h=>Z6 lo hi (by omega)));simpa[World.setCell]using this),NotB.of (λlo hi h=>Z6 lo hi (by omega)),NotB.of (λlo hi h=>Z6 lo hi (by omega)),(λg' e hn=>NotB.of (λlo hi h=>Z6 lo hi (by have:=F5l.lt e hn;omega))),(R6.setO (by omega) _).setO (by omega) _,(D6.setCell (by simp;omega) _).setCell (by simp;omega) _⟩)
    | ((try simp only[World.size_alloc]at y6 Z6)
       exact⟨_,_,_,_,_,rfl,(by have:=(G6.setS (j:=0) (.slice A1 ds.length c1)).setS (j:=1) (.slice B1 ls.length c2);simpa using this),(by omega),((F6.set (λg' e hn=>by have:=F5l.lt e hn;omega)).set (λg' e hn=>by have:=F5l.lt e hn;omega)).lo (by omega),(λg' e hn=>by have:=F5l.lt e hn;omega),(by have:=(K6.setB (k:=w5.heap.size) (j:=0) (u:=.slice A1 ds.length c1) (NotB.of (λlo hi h=>Z6 lo hi (by omega)))).setB (k:=w5.heap.size) (j:=1) (u:=.slice B1 ls.length c2) (NotB.of (λlo hi h=>Z6 lo hi (by omega)));simpa[World.setCell]using this),NotB.of (λlo hi h=>Z6 lo hi (by omega)),NotB.of (λlo hi h=>Z6 lo hi (by omega)),(λg' e hn=>NotB.of (λlo hi h=>Z6 lo hi (by have:=F5l.lt e hn;omega))),(R6.setO (by omega) _).setO (by omega) _,(D6.setCell (by simp;omega) _).setCell (by simp;omega) _⟩)
 case rest =>
  clear D2 N2 R2 D2d N2d R2d D2a N2a R2a G2a n0 n1 CD CL;obtain⟨g,A1,c1,B1,c2,rfl,G4,zg,F4,hgg,K4,nb1,nb2,nb3,R4,D4⟩:=hcut;by_cases hn:ds.length=0
  ·have hds:ds=[]:=List.length_eq_zero_iff.1 hn;obtain⟨f0,f1,f2,_⟩:=F4;subst hds;clear hgg nb3 hn;simp only[List.length_nil]at *;obtain⟨x0,x1⟩:=G4.two;go_wp2_with fail;go_loopw[16] (λi wr=>i=.int .i64 0 /\ Below w w wr /\ Bk wr g #[.slice A1 0 c1,.slice B1 ls.length c2] 25 /\ Bk wr (w.heap.size+1) #[.slice none 0 0,.slice none 0 0] 25 /\ SlAt wr wr 4 dc (.slice B1 ls.length c2) ls) (λi _=>0)
   case atStart=>exact⟨rfl,D4,G4,R4,K4⟩
   case round =>
    clear D4 G4 R4 K4 x0 x1;obtain⟨rfl,D4,G4,R4,K4⟩:=hrel;obtain⟨x0,x1⟩:=G4.two;obtain⟨r0,r1⟩:=R4.two;have rf0:=R4.fz 0;have rf1:=R4.fz 1;go_wp2_with fail;refine bodyPost_ret (v:=.agg #[.slice A1 0 c1,.slice B1 ls.length c2]) (by simp[results,results36,go_sem,r0,r1]) rfl ⟨A1,c1,B1,c2,rfl,⟨A1,c1,rfl,f0,f1,f2,λh=>absurd rfl h⟩,?_,?_⟩
    ·have:=(K4.setB (k:=w.heap.size+1) (j:=0) (u:=.slice A1 0 c1) nb2).setB (k:=w.heap.size+1) (j:=1) (u:=.slice B1 ls.length c2) nb2;unfold Links;simpa[World.setCell]using this
    ·exact(D4.setCell (by simp) _).setCell (by simp) _
  obtain⟨f0,f1,f2,_⟩:=id F4;obtain⟨g',rfl,hl,hg',I4,V4⟩:=F4.row (hi:=wc.heap.size) D4 hn;have hgg:=hgg g' rfl hn;have nb3:=nb3 g' rfl hn;have zR:=R4.lt;have hgHI:g'<wc.heap.size:=hg';obtain⟨x0,x1⟩:=G4.two;generalize hHI:wc.heap.size=HI at *;clear F4 hn;unfold maxLen at f2;go_wp2_with fail;go_loopw[16] (λi wr=>∃k:Nat,i=.int .i64 (k:Int) /\ k<=ds.length /\ Below w w wr /\ Bk wr g #[.slice g' ds.length c1,.slice B1 ls.length c2] 25 /\ Bk wr (w.heap.size+1) #[.slice none 0 0,.slice none 0 0] 25 /\ SlAt wr wr 4 dc (.slice B1 ls.length c2) ls /\ IsB wr g' /\ DvRow w.heap.size HI g' wr ds /\ g'<wr.heap.size /\ HI<=wr.heap.size) (λi _=>ds.length-(intOf i).toNat)
  case atStart=>exact⟨0,rfl,by omega,D4,G4,R4,by rw[hHI];exact K4,I4,V4,by omega,by omega⟩
  case round =>
   clear D4 G4 R4 K4 I4 V4 x0 x1 hHI;obtain⟨k,rfl,hk,D1,G1,R1,K1,I1,V1,zg1,zh1⟩:=hrel;obtain⟨x0,x1⟩:=G1.two;by_cases hlt:k<ds.length
   rotate_left
   ·obtain⟨r0,r1⟩:=R1.two;have rf0:=R1.fz 0;have rf1:=R1.fz 1;go_wp2_with fail;refine bodyPost_ret (v:=.agg #[.slice g' ds.length c1,.slice B1 ls.length c2]) (by simp[results,results36,go_sem,r0,r1]) rfl ⟨_,c1,B1,c2,rfl,?_,?_,?_⟩
    ·have:=((V1.other (k:=w.heap.size+1) (j:=0) (u:=.slice g' ds.length c1) (by omega) (by omega) (by omega)).other (k:=w.heap.size+1) (j:=1) (u:=.slice B1 ls.length c2) (by omega) (by omega) (by omega)).devs (cap:=c1) (by simpa[World.setCell]using zg1) f1 (by unfold maxLen;omega);exact this
    ·have:=(K1.setB (k:=w.heap.size+1) (j:=0) (u:=.slice g' ds.length c1) nb2).setB (k:=w.heap.size+1) (j:=1) (u:=.slice B1 ls.length c2) nb2;unfold Links;simpa[World.setCell]using this
    ·exact(D1.setCell (by simp) _).setCell (by simp) _
   obtain⟨d,hxk⟩:∃d,ds[k]?=some d:=⟨_,List.getElem?_eq_getElem hlt⟩;have HX:Hid (ds[k]?=some d):=hxk;have k1:(0:Int)<=(k:Int):=by omega
   have k2:(k:Int)<(ds.length:Int):=by omega
   clear hxk;obtain⟨vb1,vr1,vt1,⟨c0,c1',c2',c3,c4,c5,c6⟩,⟨s1,s2,s3⟩,_,_,_⟩:=V1 k d HX.out;obtain⟨Ab,cb,rfl,_⟩:=id s1;obtain⟨Ar,cr,rfl,_⟩:=id s2;obtain⟨At,ct,rfl,_⟩:=id s3;have CC:Hid (Cl 41 #[.slice Ab d.backs.length cb] _ _):=AX _ s1 (hS.out.backs d (List.mem_of_getElem? HX.out));have HL1:Hid (d.backs.length=d.backs.length):=rfl;clear s1 s2 s3;go_wp2_with fail;refine CC.out.mono ?_;rintro e w20⟨A2,q2,rfl,S2,Z2,hb2⟩;have yy2:=hb2.size;have D20:=aa hb2 D1;have G20:=G1.keep hb2;have R20:=R1.keep hb2;have K20:=SlAt.mono (SlAt.below K1 hb2 (λ_ _ _ h=>h)) hb2.size (λ_ _ _ h=>h);have I20:=I1.below hb2;have V20:=V1.below hb2;have zg2:g'<w20.heap.size:=by omega
   have zh2:HI<=w20.heap.size:=by omega
   have V2:=V20.set4 HX.out S2 (Z2 _ _ zh1) (by omega) hgHI;have D2:=D20.setCell (p:=⟨g',k*7+4,none⟩) (by simp;omega) (.slice A2 d.backs.length q2);have G2:=G20.setO (b:=g') (j:=k*7+4) (by omega) (.slice A2 d.backs.length q2);have R2:=R20.setO (b:=g') (j:=k*7+4) (by omega) (.slice A2 d.backs.length q2);have K2:=K20.setB (k:=g') (j:=k*7+4) (u:=.slice A2 d.backs.length q2) nb3;have I2:=I20.set (k:=g') (j:=k*7+4) (u:=.slice A2 d.backs.length q2);have fz2:=I20.fz (k*7+4);obtain⟨_,_,_,⟨_,_,_,_,e4,e5,e6⟩,_⟩:=V20 k d HX.out;have ee2:∃v,w20.cell? ⟨g',k*7+4,none⟩=some v:=⟨_,e4⟩;obtain⟨ev2,ec2⟩:=ee2;have sz2:(w20.setCell ⟨g',k*7+4,none⟩ (.slice A2 d.backs.length q2)).heap.size=w20.heap.size:=by simp[World.setCell]
   rw[sz2.symm]at K2 zg2 zh2;clear V1 D1 G1 R1 K1 I1 c0 c1' c2' c3 c4 c5 c6 e4 e5 e6 CC S2 Z2 hb2 V20 D20 G20 R20 K20 I20 HL1 zg1 zh1 yy2;go_upto_region 7 with fail;generalize hW2:w20.setCell ⟨g',k*7+4,none⟩ (.slice A2 d.backs.length q2)=w2 at *;clear hW2 fz2 ec2 sz2;obtain⟨vb2,vr2,vt2,⟨c0,c1',c2',c3,c4,c5,c6⟩,⟨s1,s2,s3⟩,_,_,_⟩:=V2 k d HX.out;obtain⟨Ab,cb,rfl,_⟩:=id s1;obtain⟨Ar,cr,rfl,_⟩:=id s2;obtain⟨At,ct,rfl,_⟩:=id s3;have CC:Hid (Cl 42 #[.slice Ar d.rules.length cr] _ _):=AY _ s2 (hS.out.rules d (List.mem_of_getElem? HX.out));have HL2:Hid (d.rules.length=d.rules.length):=rfl;clear s1 s2 s3;go_wp2_with fail;refine CC.out.mono ?_;rintro e w30⟨A3,q3,rfl,S3,Z3,hb3⟩;have yy3:=hb3.size;have D30:=aa hb3 D2;have G30:=G2.keep hb3;have R30:=R2.keep hb3;have K30:=SlAt.mono (SlAt.below K2 hb3 (λ_ _ _ h=>h)) hb3.size (λ_ _ _ h=>h);have I30:=I2.below hb3;have V30:=V2.below hb3;have zg3:g'<w30.heap.size:=by omega
   have zh3:HI<=w30.heap.size:=by omega
   have V3:=V30.set5 HX.out S3 (Z3 _ _ zh2) (by omega) hgHI;have D3:=D30.setCell (p:=⟨g',k*7+5,none⟩) (by simp;omega) (.slice A3 d.rules.length q3);have G3:=G30.setO (b:=g') (j:=k*7+5) (by omega) (.slice A3 d.rules.length q3);have R3:=R30.setO (b:=g') (j:=k*7+5) (by omega) (.slice A3 d.rules.length q3);have K3:=K30.setB (k:=g') (j:=k*7+5) (u:=.slice A3 d.rules.length q3) nb3;have I3:=I30.set (k:=g') (j:=k*7+5) (u:=.slice A3 d.rules.length q3);have fz3:=I30.fz (k*7+5);obtain⟨_,_,_,⟨_,_,_,_,e4,e5,e6⟩,_⟩:=V30 k d HX.out;have ee3:∃v,w30.cell? ⟨g',k*7+5,none⟩=some v:=⟨_,e5⟩;obtain⟨ev3,ec3⟩:=ee3;have sz3:(w30.setCell ⟨g',k*7+5,none⟩ (.slice A3 d.rules.length q3)).heap.size=w30.heap.size:=by simp[World.setCell]
   rw[sz3.symm]at K3 zg3 zh3;clear V2 D2 G2 R2 K2 I2 c0 c1' c2' c3 c4 c5 c6 e4 e5 e6 CC S3 Z3 hb3 V30 D30 G30 R30 K30 I30 HL2 zg2 zh2 yy3;go_upto_region 8 with fail;generalize hW3:w30.setCell ⟨g',k*7+5,none⟩ (.slice A3 d.rules.length q3)=w3 at *;clear hW3 fz3 ec3 sz3;obtain⟨vb3,vr3,vt3,⟨c0,c1',c2',c3,c4,c5,c6⟩,⟨s1,s2,s3⟩,_,_,_⟩:=V3 k d HX.out;obtain⟨Ab,cb,rfl,_⟩:=id s1;obtain⟨Ar,cr,rfl,_⟩:=id s2;obtain⟨At,ct,rfl,_⟩:=id s3;have CC:Hid (Cl 43 #[.slice At d.routes.length ct] _ _):=AZ _ s3 (hS.out.routes d (List.mem_of_getElem? HX.out));have HL3:Hid (d.routes.length=d.routes.length):=rfl;clear s1 s2 s3;go_wp2_with fail;refine CC.out.mono ?_;rintro e w40⟨A4,q4,rfl,S4,Z4,hb4⟩;have yy4:=hb4.size;have D40:=aa hb4 D3;have G40:=G3.keep hb4;have R40:=R3.keep hb4;have K40:=SlAt.mono (SlAt.below K3 hb4 (λ_ _ _ h=>h)) hb4.size (λ_ _ _ h=>h);have I40:=I3.below hb4;have V40:=V3.below hb4;have zg4:g'<w40.heap.size:=by omega
   have zh4:HI<=w40.heap.size:=by omega
   have V4:=V40.set6 HX.out S4 (Z4 _ _ zh3) (by omega) hgHI;have D4:=D40.setCell (p:=⟨g',k*7+6,none⟩) (by simp;omega) (.slice A4 d.routes.length q4);have G4:=G40.setO (b:=g') (j:=k*7+6) (by omega) (.slice A4 d.routes.length q4);have R4:=R40.setO (b:=g') (j:=k*7+6) (by omega) (.slice A4 d.routes.length q4);have K4:=K40.setB (k:=g') (j:=k*7+6) (u:=.slice A4 d.routes.length q4) nb3;have I4:=I40.set (k:=g') (j:=k*7+6) (u:=.slice A4 d.routes.length q4);have fz4:=I40.fz (k*7+6);obtain⟨_,_,_,⟨_,_,_,_,e4,e5,e6⟩,_⟩:=V40 k d HX.out;have ee4:∃v,w40.cell? ⟨g',k*7+6,none⟩=some v:=⟨_,e6⟩;obtain⟨ev4,ec4⟩:=ee4;have sz4:(w40.setCell ⟨g',k*7+6,none⟩ (.slice A4 d.routes.length q4)).heap.size=w40.heap.size:=by simp[World.setCell]
   rw[sz4.symm]at K4 zg4 zh4;clear V3 D3 G3 R3 K3 I3 c0 c1' c2' c3 c4 c5 c6 e4 e5 e6 CC S4 Z4 hb4 V40 D40 G40 R40 K40 I40 HL3 zg3 zh3 yy4;go_upto_region 9 with fail;generalize hW4:w40.setCell ⟨g',k*7+6,none⟩ (.slice A4 d.routes.length q4)=w4 at *;clear hW4 fz4 ec4 sz4;go_wp2_with fail;go_roundw
   case rel=>exact⟨k+1,by go_num,by omega,D4,G4,R4,K4,I4,V4,zg4,zh4⟩
   case measure=>simp[intOf];omega
theorem zeroI(w:World):(zeroValue 3).run prog w=.ok (.int .i64 0) w:=by kernel_rfl
theorem zeroU(w:World):(zeroValue 111).run prog w=.ok (.agg #[]) w:=by kernel_rfl
theorem zeroE(w:World):(zeroValue 180).run prog w=.ok (.agg #[.int .i64 0,.int .i64 0]) w:=by kernel_rfl
theorem lL:laidOutB prog=true:=by kernel_rfl
theorem fN:prog.types.size=315:=by kernel_rfl
theorem ir:prog.cellsOf 3=1:=by kernel_rfl
theorem cPkt:prog.cellsOf 37=4:=by kernel_rfl
theorem lawPk:Keyed prog 175:=Keyed.of_law (deep_law_gate (k:=175) lL (by rw[fN];decide) (by rw[fN];decide) (by kernel_rfl) (by kernel_rfl))
theorem lawPo:Keyed prog 178:=Keyed.of_law (deep_law_gate (k:=178) lL (by rw[fN];decide) (by rw[fN];decide) (by kernel_rfl) (by kernel_rfl))
structure KeyEncW(k:TypeId)(α:Type) where
 enc:α->Value
 ok:α->Prop
 lit:α->Lit
 law:Keyed prog k
 key:∀x,ok x->keyOf prog k (enc x)=some (lit x)
 inj:∀x y,enc x=enc y->x=y
structure ElEnc(e:TypeId)(β:Type) where
 enc:β->Value
 R:Value->Option (DataW Unit × List MemPlace)
 dat:β->DataW Unit
 read:∀x,R (enc x)=some (dat x,[])
 inv:∀v z,R v=some z->∃x,v=enc x /\ z=(dat x,[])
 inj:∀x y,dat x=dat y->x=y
 zero:β
 hz:∀w,(zeroValue e).run prog w=.ok (enc zero) w
def MapAt{k e:TypeId}{α β:Type}(E:KeyEncW k α)(V:ElEnc e β)(w:World)(b n:Nat)(f:α->Option β):Prop :=
 ∃D:DataW Unit,w.ownsMap prog k V.R b n D /\ ∀x,E.ok x->Maps.has D (E.lit x)=(f x).isSome /\ D.atKey (E.lit x) (V.dat V.zero)=V.dat ((f x).getD V.zero)
open Classical in
noncomputable def ch {α β:Type}(f:α->Option β)(x:α)(v:β):α->Option β:=λy=>if y=x then some v else f y
open Classical in
noncomputable def cG {α β:Type}(f:α->Option β)(x:α):α->Option β:=λy=>if y=x then none else f y
theorem ew{α β:Type}(f:α->Option β)(x:α)(v:β):ch f x v x=some v:=by simp[ch]
theorem fO{α β:Type}(f:α->Option β){x y:α}(v:β)(h:y≠x):ch f x v y=f y:=by simp[ch,h]
theorem gt{α β:Type}(f:α->Option β)(x:α):cG f x x=none:=by simp[cG]
theorem jP{α β:Type}(f:α->Option β){x y:α}(h:y≠x):cG f x y=f y:=by simp[cG,h]
section
variable {k e:TypeId}{α β:Type}{E:KeyEncW k α}{V:ElEnc e β}{w w':World}{b n:Nat}{f:α->Option β}
theorem MapAt.lt(h:MapAt E V w b n f):b<w.heap.size:=by
 obtain⟨D,h,_⟩:=h;exact h.lt
theorem MapAt.isMap(h:MapAt E V w b n f):∃es clock,w.heap[b]?=some (.map es clock):=by
 obtain⟨D,⟨es,clock,hb,_⟩,_⟩:=h;exact⟨es,clock,hb⟩
theorem MapAt.mono(h:MapAt E V w b n f){n':Nat}(hn:n<=n'):MapAt E V w b n' f:=by
 obtain⟨D,h,r⟩:=h;exact⟨D,h.mono hn,r⟩
theorem MapAt.same(h:MapAt E V w b n f)(hb:w'.heap[b]?=w.heap[b]?):MapAt E V w' b n f:=by
 obtain⟨D,⟨es,clock,h1,r⟩,r'⟩:=h;exact⟨D,⟨es,clock,hb.trans h1,r⟩,r'⟩
theorem lN(E:KeyEncW k α)(V:ElEnc e β)(w:World):MapAt E V (w.alloc (.map #[] 0)) w.heap.size 0 (λ_=>none) :=
 ⟨.map [],World.ownsMap_made w _ _ _,λ_ _=>⟨rfl,rfl⟩⟩
theorem MapAt.look(h:MapAt E V w b n f){t:TypeId}(ht:prog.underlying t=some (.map k e)){x:α}(hx:E.ok x) :
  (Instr.lookup t (.map (some b)) (E.enc x) true).run prog w=.ok (.tuple #[V.enc ((f x).getD V.zero),.bool (f x).isSome]) w:=by
 obtain⟨D,h,r⟩:=h;obtain⟨v,ps,hrun,hv⟩:=h.look_ok E.law ht (V.hz w) (V.read V.zero) (E.key x hx);rw[(r x hx).2]at hv;obtain⟨y,rfl,hy⟩:=V.inv _ _ hv;simp only[Prod.mk.injEq]at hy;rw[hrun,(r x hx).1,V.inj _ _ hy.1]
theorem MapAt.store(h:MapAt E V w b n f){t:TypeId}(ht:prog.underlying t=some (.map k e))(hn:n<maxLen){x:α}(hx:E.ok x)(v:β) :
  ∃w',(Instr.mapUpdate t (.map (some b)) (E.enc x) (V.enc v)).run prog w=.ok () w' /\ MapAt E V w' b (n+1) (ch f x v) /\ w.mapTurned w' b:=by
 obtain⟨D,h,r⟩:=h;obtain⟨w',hrun,hown,hgrow⟩:=h.store E.law ht hn (E.key x hx) (V.read v);refine⟨w',hrun,⟨_,hown,λy hy=>?_⟩,hgrow⟩;by_cases e:y=x
 ·subst e;rw[has_put_same h.isMap (E.law.key (E.key y hy)),atKey_put_same h.isMap (E.law.key (E.key y hy)),ew];exact⟨rfl,rfl⟩
 ·have hne:E.lit y≠E.lit x:=λhl=>by
   have k1:=E.key y hy;rw[hl]at k1;exact e (E.inj _ _ (E.law.inj k1 (E.key x hx)))
  rw[has_put_other hne,atKey_put_other hne,fO f v e];exact r y hy
theorem MapAt.drop(h:MapAt E V w b n f){t:TypeId}(ht:prog.underlying t=some (.map k e)){x:α}(hx:E.ok x)(ty:TypeId) :
  ∃w',(Builtin.delete_ #[t,k] ty #[.map (some b),E.enc x]).run prog w=.ok (.tuple #[]) w' /\ MapAt E V w' b n (cG f x) /\ w.mapTurned w' b:=by
 obtain⟨D,h,r⟩:=h;obtain⟨w',hrun,hown,hgrow⟩:=h.drop E.law ht (E.key x hx) ty;refine⟨w',hrun,⟨_,hown,λy hy=>?_⟩,hgrow⟩;by_cases e:y=x
 ·subst e;rw[has_del_same,atKey_del_same,gt];exact⟨rfl,rfl⟩
 ·have hne:E.lit y≠E.lit x:=λhl=>by
   have k1:=E.key y hy;rw[hl]at k1;exact e (E.inj _ _ (E.law.inj k1 (E.key x hx)))
  rw[has_del_other hne,atKey_del_other hne,jP f e];exact r y hy
end
structure Pk where
 s:Int
 d:Int
 sp:Int
 dp:Int
def aj(n:Int):Prop:=(Lit.int .i64 n).wf=true
theorem cN{n:Int}(h:-9223372036854775808<=n)(h':n<9223372036854775808):aj n:=WalkArith.wf_i64 (by omega)
structure Pk.ok(p:Pk):Prop where
 s:aj p.s
 d:aj p.d
 sp:aj p.sp
 dp:aj p.dp
abbrev pkV(p:Pk):Value:=.agg #[p.s,p.d,p.sp,p.dp]
abbrev gu(x:Int × Pk):Value:=.agg #[x.1,x.2.s,x.2.d,x.2.sp,x.2.dp]
abbrev ey(x:Int × Int):Value:=.agg #[x.1,x.2]
def qC(x:Int × Pk):Prop:=aj x.1 /\ x.2.ok
def qD(x:Int × Int):Prop:=aj x.1 /\ aj x.2
theorem Bb(x y:Int × Pk)(h:gu x=gu y):x=y:=by
 obtain⟨a,b,c,d,e⟩:=x;obtain⟨a',b',c',d',e'⟩:=y;simp at h;obtain⟨rfl,rfl,rfl,rfl,rfl⟩:=h;rfl
theorem Bc(x y:Int × Int)(h:ey x=ey y):x=y:=by
 obtain⟨a,b⟩:=x;obtain⟨a',b'⟩:=y;simp at h;obtain⟨rfl,rfl⟩:=h;rfl
noncomputable def eP (k:TypeId)(v:Value):Lit:=(keyOf prog k v).getD (.bool false)
theorem lO{k:TypeId}{v:Value}(hs:(keyOf prog k v).isSome=true):keyOf prog k v=some (eP k v):=by
 unfold eP;cases hk:keyOf prog k v with
 | none=>rw[hk]at hs;cases hs
 | some l=>rfl
theorem lP:∃m,prog.types.size+1=m+3:=⟨315-2,by rw[fN]⟩
theorem keyPo(n:Int × Int)(h:qD n):keyOf prog 178 (ey n)=some (eP 178 (ey n)):=by
 obtain⟨w1,w2⟩:=h;unfold aj at w1 w2;obtain⟨m,hm⟩:=lP;refine lO ?_;unfold keyOf;simp only[underlying178];rw[if_pos (by kernel_rfl),hm];unfold Program.keyLits;simp only[underlying178,Value.cells];rw[if_pos ⟨by kernel_rfl,by kernel_rfl⟩];simp[Program.keyLits,underlying3,w1,w2,ir]
theorem keyPk(n:Int × Pk)(h:qC n):keyOf prog 175 (gu n)=some (eP 175 (gu n)):=by
 obtain⟨w1,⟨w2,w3,w4,w5⟩⟩:=h;unfold aj at w1 w2 w3 w4 w5;obtain⟨m,hm⟩:=lP;refine lO ?_;unfold keyOf;simp only[underlying175];rw[if_pos (by kernel_rfl),hm];unfold Program.keyLits;simp only[underlying175,Value.cells];rw[if_pos ⟨by kernel_rfl,by kernel_rfl⟩];have hi:prog.keyLits (m+2) 3 [.int .i64 n.1]=some [.int .i64 n.1]:=by
  simp[Program.keyLits,underlying3,w1]
 have hp:prog.keyLits (m+2) 37 [.int .i64 n.2.s,.int .i64 n.2.d,.int .i64 n.2.sp,.int .i64 n.2.dp]=some [.int .i64 n.2.s,.int .i64 n.2.d,.int .i64 n.2.sp,.int .i64 n.2.dp]:=by
  unfold Program.keyLits;simp only[underlying37];rw[if_pos ⟨by kernel_rfl,by kernel_rfl⟩];simp[Program.keyLits,underlying3,w2,w3,w4,w5,ir]
 simp[hi,hp,ir,cPkt]
noncomputable def eQ:KeyEncW 175 (Int × Pk):=⟨gu,qC,λn=>eP 175 (gu n),lawPk,keyPk,Bb⟩
noncomputable def jQ:KeyEncW 178 (Int × Int):=⟨ey,qD,λn=>eP 178 (ey n),lawPo,keyPo,Bc⟩
def intR:Value->Option (DataW Unit × List MemPlace)
 | .int .i64 a=>some (.lit (.int .i64 a),[])
 | _=>none
theorem Be(v:Value)(z:DataW Unit × List MemPlace)(h:intR v=some z):∃x:Int,v=.int .i64 x /\ z=(.lit (.int .i64 x),[]):=by
 unfold intR at h
 split at h
 ·cases h;exact⟨_,rfl,rfl⟩
 ·cases h
def jR:ElEnc 3 Int:=⟨λx=>.int .i64 x,intR,λx=>.lit (.int .i64 x),λ_=>rfl,Be,λx y h=>by simpa using h,0,zeroI⟩
def cO:ElEnc 111 Unit:=⟨λ_=>.agg #[],unitElem,λ_=>.agg [],λ_=>unitElem_mk,λ_ _ h=>⟨(),(unitElem_inv h).1,(unitElem_inv h).2⟩,λ_ _ _=>rfl,(),zeroU⟩
def twoR:List Value->Option (DataW Unit × List MemPlace)
 | [.int .i64 a,.int .i64 b]=>some (.agg [.lit (.int .i64 a),.lit (.int .i64 b)],[])
 | _=>none
theorem Bf(l:List Value)(z:DataW Unit × List MemPlace)(h:twoR l=some z):∃x:Int × Int,l=[.int .i64 x.1,.int .i64 x.2] /\ z=(.agg [.lit (.int .i64 x.1),.lit (.int .i64 x.2)],[]):=by
 unfold twoR at h
 split at h
 ·cases h;exact⟨(_,_),rfl,rfl⟩
 ·cases h
def endR:Value->Option (DataW Unit × List MemPlace)
 | .agg cs=>twoR cs.toList
 | _=>none
theorem Bg(v:Value)(z:DataW Unit × List MemPlace)(h:endR v=some z):∃x:Int × Int,v=ey x /\ z=(.agg [.lit (.int .i64 x.1),.lit (.int .i64 x.2)],[]):=by
 unfold endR at h
 split at h
 ·rename_i cs
  obtain⟨x,e,rfl⟩:=Bf _ _ h;refine⟨x,?_,rfl⟩;rw[ey,<- e]
 ·cases h
def jS:ElEnc 180 (Int × Int):=⟨ey,endR,λx=>.agg [.lit (.int .i64 x.1),.lit (.int .i64 x.2)],λ_=>rfl,Bg,λx y h=>by
 obtain⟨a,b⟩:=x;obtain⟨c,d⟩:=y;simpa using h,(0,0),zeroE⟩
end Go.Proofs.YtjmclcmgpaofiaaGreat
