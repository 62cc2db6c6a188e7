/-
  XAM.
-/
import Derived.Test.YtppbfikimalojaaGreatXAA
import Derived.Laws.AppendOwnNone
import Derived.Lib.SliceRun
import Derived.Test.YtppbfikimalojaaGreatXAL
import Derived.Shelf.Sort.Plain
import Derived.Ground.Names2Prog
import Derived.Shelf.Slices.SearchI
import Derived.Test.YtppbfikimalojaaGreatProg
import Derived.Test.YtppbfikimalojaaGreatXAK
set_option maxHeartbeats 8000000
set_option maxRecDepth 100000
namespace Go.Proofs.YtppbfikimalojaaGreat
open Go.RowKit Go.Maps
def ci(b9:Nat)(w:World)(v:Value)(N n:Nat)(cs:List Value):Prop :=
 ∃A cap,v=.slice A N cap/\(A=none->cap=0)/\N<=cap/\cap<=maxLen/\cs.length=N*n/\(∀u∈cs,u.oneCell'=true) /\
   (N≠0->∃b o,A=some ⟨b,o,none⟩/\b<b9/\∀j u,cs[j]?=some u->w.cell? ⟨b,o+j,none⟩=some u)
theorem mC{α:Type}{w:World}{n:Nat}{R:List Value->α->Prop}(h1:∀cs x,R cs x->∀u∈cs,u.oneCell'=true){b:Nat}:∀(xs:List α) (o:Nat),(∀k x,xs[k]?=some x->∃c:List Value,c.length=n/\R c x/\∀j u,c[j]?=some u->w.cell? ⟨b,o+k*n+j,none⟩=some u) ->
  ∃cs:List Value,cs.length=xs.length*n/\(∀j u,cs[j]?=some u->w.cell? ⟨b,o+j,none⟩=some u)/\(∀u∈cs,u.oneCell'=true)/\∀k x,xs[k]?=some x->R ((cs.drop (k*n)).take n) x
 | [],_,_=>⟨[],by simp,(λj u hj=>by simp at hj),(λu hu=>by cases hu),(λk x hx=>by simp at hx)⟩
 | x::xs,o,h=>by
   obtain⟨c0,l0,r0,e0⟩:=h 0 x rfl;obtain⟨cs,l1,e1,o1,r1⟩:=mC h1 xs (o+n) (λk y hy=>by
    obtain⟨c,l,r,e⟩:=h (k+1) y (by simpa using hy);exact⟨c,l,r,λj u hj=>by
     have:=e j u hj
     rwa [show o+(k+1)*n+j=o+n+k*n+j by rw[Nat.add_mul,Nat.one_mul];omega]at this⟩)
   refine⟨c0++cs,?_,λj u hj=>?_,λu hu=>?_,λk y hy=>?_⟩
   ·rw[List.length_append,l0,l1,List.length_cons,Nat.add_mul];omega
   ·by_cases hl:j<n
    ·rw[List.getElem?_append_left (by omega)]at hj;have:=e0 j u hj;simpa using this
    ·rw[List.getElem?_append_right (by omega),l0]at hj;have:=e1 (j-n) u hj
     rwa [show o+n+(j-n)=o+j by omega]at this
   ·rcases List.mem_append.1 hu with hu|hu
    ·exact h1 _ _ r0 u hu
    ·exact o1 u hu
   ·cases k with
    | zero =>
      obtain rfl:x=y:=by simpa using hy
      rw[Nat.zero_mul,List.drop_zero,<- l0,List.take_left']
      ·exact r0
      ·rfl
    | succ k =>
      have e:(c0++cs).drop ((k+1)*n)=cs.drop (k*n):=by
       rw[List.drop_append,List.drop_eq_nil_of_le (by rw[Nat.add_mul,l0];omega),List.nil_append,l0]
       congr 1
       rw[Nat.add_mul];omega
      rw[e];exact r1 k y (by simpa using hy)
theorem SlAt.row{α:Type}{b9 n:Nat}{w:World}{R:List Value->α->Prop}{v:Value}{xs:List α}(h:SlAt b9 w n R v xs)(h1:∀cs x,R cs x->∀u∈cs,u.oneCell'=true) :
  ∃cs,ci b9 w v xs.length n cs/\∀k x,xs[k]?=some x->R ((cs.drop (k*n)).take n) x:=by
 obtain⟨A,cap,e,h0,hl,hm,h3⟩:=h;by_cases hx:xs=[]
 ·subst hx;exact⟨[],⟨A,cap,e,h0,hl,hm,by simp,(λu hu=>by cases hu),λhn=>absurd rfl hn⟩,λk x hx=>by simp at hx⟩
 ·obtain⟨b,o,ea,hb,hr⟩:=h3 hx;obtain⟨cs,l1,e1,o1,r1⟩:=mC h1 xs o hr;exact⟨cs,⟨A,cap,e,h0,hl,hm,l1,o1,λ_=>⟨b,o,ea,hb,e1⟩⟩,r1⟩
theorem SlAt.own{α:Type}{b9 n:Nat}{w:World}{t:TypeId}{R:List Value->α->Prop}{v:Value}{xs:List α}{cs:List Value}(h:w.ownsRow b9 t n v xs.length cs)(hr:∀k x,xs[k]?=some x->R ((cs.drop (k*n)).take n) x):SlAt w.heap.size w n R v xs:=by
 have h':=h;obtain⟨hl,hc⟩:=h;rcases hc with⟨rfl,h0⟩|⟨g,cap,cur,rfl,hb,hg,hn,hcap,hs,ht⟩
 ·exact⟨none,0,by rw[h0],λ_=>rfl,by omega,by unfold maxLen;omega,λhn=>absurd (List.length_eq_zero_iff.1 h0) hn⟩
 ·refine⟨_,cap,rfl,(λe=>by cases e),hn,hcap,λ_=>⟨g,0,rfl,(Array.getElem?_eq_some_iff.1 hg).1,λk x hx=>?_⟩⟩;have hk:=(List.getElem?_eq_some_iff.1 hx).1;have hle:k*n+n<=cs.length:=by
   have hm:=Nat.mul_le_mul_right n (show k+1<=xs.length from hk);rw[Nat.add_mul,Nat.one_mul]at hm;omega
  refine⟨(cs.drop (k*n)).take n,?_,hr k x hx,λj u hj=>?_⟩
  ·rw[List.length_take,List.length_drop];omega
  ·have hjn:j<n:=by
    have:=(List.getElem?_eq_some_iff.1 hj).1;rw[List.length_take]at this;omega
   rw[List.getElem?_take_of_lt hjn,List.getElem?_drop]at hj;have:=h'.cells (g:=g) rfl (k*n+j) u hj;rw[Addr.add_lit]at this
   rwa [show 0+k*n+j=0+(k*n+j) by omega]
theorem ah{P:Program}{w w':World}{ops:Array Oper}{rest:List Oper}{o:Oper}{a:Act}{Q:Exit->Act->World->Prop}(hgd:o.guard=none)(s x:Operand)(t:TypeId)
  (ho:o.op=.call { callee:=.builtin .append,args:=#[s,x],argTypes:=#[t,t] }) {v x' v':Value} (hs:a.eval s=v) (hx:a.eval x=x') (hr:(Builtin.append_ #[t,t] o.type #[v,x']).run P w=.ok v' w')
  (h:wpList P ops Q rest (a.put o.dst v') w'):wpList P ops Q (o::rest) a w:=by
 refine wpList_plain hgd λK hK=>?_;unfold Oper.wp execOp;simp only[ho,resolve,invoke,builtin,Sem.run_bind,Sem.run_pure,Result.andThen_ok,List.map_toArray,List.map_cons,List.map_nil,hs,hx,hr];exact hK _ _ h
theorem Below.appC{B b9:Nat}{w0 w w':World}{t:TypeId}{s n:Nat}{v:Value}{cs:List Value}(h:Below B w0 w)(ho:w.ownsRow b9 t s v n cs)(hg:w.grownBy w' v.ownBlock)(hB:B<=b9)(hb:b9<=w.heap.size):Below B w0 w' :=
 h.grown hg (by omega) (λk e=>by have:=(ho.lt k e).1;omega)
theorem oneI(cs:List Value)(x:Int)(h:IsI cs x):∀u∈cs,u.oneCell'=true:=by
 unfold IsI at h;subst h;intro u hu;simp only[List.mem_cons,List.not_mem_nil,or_false]at hu;subst hu;rfl
theorem oneLk(cs:List Value)(x:Lk)(h:S7 cs x):∀u∈cs,u.oneCell'=true:=by
 unfold S7 at h;subst h;intro u hu;simp only[List.mem_cons,List.not_mem_nil,or_false]at hu;rcases hu with rfl|rfl|rfl|rfl <;> rfl
theorem oneRule(cs:List Value)(x:NRule)(h:A9 cs x):∀u∈cs,u.oneCell'=true:=by
 unfold A9 at h;subst h;intro u hu;simp only[List.mem_cons,List.not_mem_nil,or_false]at hu;rcases hu with rfl|rfl|rfl|rfl|rfl <;> rfl
theorem oneRoute(cs:List Value)(x:NRoute)(h:C7 cs x):∀u∈cs,u.oneCell'=true:=by
 unfold C7 at h;subst h;intro u hu;simp only[List.mem_cons,List.not_mem_nil,or_false]at hu;rcases hu with rfl|rfl|rfl <;> rfl
theorem oneDv{b9:Nat}{w:World}(cs:List Value)(x:Dv)(h:IsDv b9 w cs x):∀u∈cs,u.oneCell'=true:=by
 obtain⟨vb,vr,vt,rfl,h1,h2,h3⟩:=h;obtain⟨_,_,rfl,_⟩:=h1;obtain⟨_,_,rfl,_⟩:=h2;obtain⟨_,_,rfl,_⟩:=h3;intro u hu;simp only[List.mem_cons,List.not_mem_nil,or_false]at hu;rcases hu with rfl|rfl|rfl|rfl|rfl|rfl|rfl <;> rfl
theorem u_ints:Tryz.prog.underlying 50=some (.slice 3):=by kernel_rfl
theorem wJ:(Tryz.prog.info? 3).map (λi=>(i.zero,i.size,i.bytes))=some (some (.int .i64 0),1,8):=by kernel_rfl
theorem wK{v:Value}{N:Nat}{cs:List Value}(w:World)(h:ci w.heap.size w v N 1 cs)(hs:N<=1048576) :
  Calls Tryz.prog 212 #[v] w λe w'=>∃v',e=.returned v'/\w'.ownsRow w.heap.size 3 1 v' N cs/\Below w.heap.size w w':=by
 have q:∀(w:World) (a:Option Addr) (n c n' c':Nat),(binOp .eql 50 (.slice a n c) (.slice none n' c')).run Tryz.prog w=.ok (.bool a.isNone) w:=λw a n c n' c'=>Lib.run_eql_slice_nil w _ _ a n c n' c' u_ints;obtain⟨i0,hi,hz0,hz1,hz2⟩:=info_parts wJ;have D0:=Below.alN (Below.refl w.heap.size w) (.cells #[] 3);have o0:(w.alloc (.cells #[] 3)).ownsRow w.heap.size 3 1 (.slice (some ⟨w.heap.size,0,none⟩) 0 0) 0 []:=World.ownsRow_made w #[] 0 (Nat.le_refl _) (Nat.zero_le _) (by simp);obtain⟨A,cap,rfl,h0,h1,h2,hl,ho,h3⟩:=h;cases A with
 | none =>
   have hN:N=0:=by
    by_cases hn:N=0
    ·exact hn
    ·obtain⟨_,_,e,_⟩:=h3 hn;cases e
   subst hN;have hcs:cs=[]:=List.length_eq_zero_iff.1 (by simpa using hl);subst hcs;clear h3 ho hl hs o0;go_enter Tryz.func212,Tryz.ntmps212;go_wp2_with fail;go_ret;exact⟨_,rfl,World.ownsRow_nil _ _ _ _,Below.refl _ _⟩
 | some ad =>
   obtain⟨v',w',hr,h4,h5,_⟩:=run_append_own (P:=Tryz.prog) (w.alloc (.cells #[] 3)) w.heap.size 50 50 3 i0 _ 1 8 u_ints hi hz0 hz1 hz2 rfl (by decide) _ 0 [] o0 ad N cap cs hl (λj u hj=>by
    have hn:N≠0:=λe=>by
     subst e;have:cs=[]:=List.length_eq_zero_iff.1 (by simpa using hl);subst this;simp at hj
    obtain⟨b,o,e,hb,hr⟩:=h3 hn;cases e;rw[Addr.add_lit];exact(D0.cell (p:=⟨b,o+j,none⟩) hb).trans (hr j u hj)) ho (by unfold maxLen;omega) (by omega) (by simp)
   have D1:=Below.appC D0 o0 h5 (Nat.le_refl _) (by simp);simp only[List.nil_append,Nat.zero_add]at h4;have fin:Hid (w'.ownsRow w.heap.size 3 1 v' N cs/\Below w.heap.size w w'):=⟨h4,D1⟩;clear h0 h1 h2 h3 h5 hs o0 D0 h4 D1 hl ho;go_enter Tryz.func212,Tryz.ntmps212;go_wp2_with (at_builtin;refine ah rfl _ _ 50 rfl rfl rfl hr ?_);go_ret;exact⟨_,rfl,fin.out⟩
theorem mD:Tryz.prog.underlying 23=some (.slice 96):=by kernel_rfl
theorem wL:(Tryz.prog.info? 96).map (λi=>(i.zero,i.size,i.bytes))=some (some (.agg #[.int .i64 0,.int .i64 0,.int .i64 0,.int .i64 0]),4,32):=by kernel_rfl
theorem wM{v:Value}{N:Nat}{cs:List Value}(w:World)(h:ci w.heap.size w v N 4 cs)(hs:N<=1048576) :
  Calls Tryz.prog 211 #[v] w λe w'=>∃v',e=.returned v'/\w'.ownsRow w.heap.size 96 4 v' N cs/\Below w.heap.size w w':=by
 have q:∀(w:World) (a:Option Addr) (n c n' c':Nat),(binOp .eql 23 (.slice a n c) (.slice none n' c')).run Tryz.prog w=.ok (.bool a.isNone) w:=λw a n c n' c'=>Lib.run_eql_slice_nil w _ _ a n c n' c' mD;obtain⟨i0,hi,hz0,hz1,hz2⟩:=info_parts wL;have D0:=Below.alN (Below.refl w.heap.size w) (.cells #[] 96);have o0:(w.alloc (.cells #[] 96)).ownsRow w.heap.size 96 4 (.slice (some ⟨w.heap.size,0,none⟩) 0 0) 0 []:=World.ownsRow_made w #[] 0 (Nat.le_refl _) (Nat.zero_le _) (by simp);obtain⟨A,cap,rfl,h0,h1,h2,hl,ho,h3⟩:=h;cases A with
 | none =>
   have hN:N=0:=by
    by_cases hn:N=0
    ·exact hn
    ·obtain⟨_,_,e,_⟩:=h3 hn;cases e
   subst hN;have hcs:cs=[]:=List.length_eq_zero_iff.1 (by simpa using hl);subst hcs;clear h3 ho hl hs o0;go_enter Tryz.func211,Tryz.ntmps211;go_wp2_with fail;go_ret;exact⟨_,rfl,World.ownsRow_nil _ _ _ _,Below.refl _ _⟩
 | some ad =>
   obtain⟨v',w',hr,h4,h5,_⟩:=run_append_own (P:=Tryz.prog) (w.alloc (.cells #[] 96)) w.heap.size 23 23 96 i0 _ 4 32 mD hi hz0 hz1 hz2 rfl (by decide) _ 0 [] o0 ad N cap cs hl (λj u hj=>by
    have hn:N≠0:=λe=>by
     subst e;have:cs=[]:=List.length_eq_zero_iff.1 (by simpa using hl);subst this;simp at hj
    obtain⟨b,o,e,hb,hr⟩:=h3 hn;cases e;rw[Addr.add_lit];exact(D0.cell (p:=⟨b,o+j,none⟩) hb).trans (hr j u hj)) ho (by unfold maxLen;omega) (by omega) (by simp)
   have D1:=Below.appC D0 o0 h5 (Nat.le_refl _) (by simp);simp only[List.nil_append,Nat.zero_add]at h4;have fin:Hid (w'.ownsRow w.heap.size 96 4 v' N cs/\Below w.heap.size w w'):=⟨h4,D1⟩;clear h0 h1 h2 h3 h5 hs o0 D0 h4 D1 hl ho;go_enter Tryz.func211,Tryz.ntmps211;go_wp2_with (at_builtin;refine ah rfl _ _ 23 rfl rfl rfl hr ?_);go_ret;exact⟨_,rfl,fin.out⟩
theorem mE:Tryz.prog.underlying 53=some (.slice 212):=by kernel_rfl
theorem wN:(Tryz.prog.info? 212).map (λi=>(i.zero,i.size,i.bytes))=some (some (.agg #[.bool false,.int .u16 0,.int .u16 0,.int .u8 0,.int .u8 0]),5,8):=by kernel_rfl
theorem wO{v:Value}{N:Nat}{cs:List Value}(w:World)(h:ci w.heap.size w v N 5 cs)(hs:N<=1048576) :
  Calls Tryz.prog 213 #[v] w λe w'=>∃v',e=.returned v'/\w'.ownsRow w.heap.size 212 5 v' N cs/\Below w.heap.size w w':=by
 have q:∀(w:World) (a:Option Addr) (n c n' c':Nat),(binOp .eql 53 (.slice a n c) (.slice none n' c')).run Tryz.prog w=.ok (.bool a.isNone) w:=λw a n c n' c'=>Lib.run_eql_slice_nil w _ _ a n c n' c' mE;obtain⟨i0,hi,hz0,hz1,hz2⟩:=info_parts wN;have D0:=Below.alN (Below.refl w.heap.size w) (.cells #[] 212);have o0:(w.alloc (.cells #[] 212)).ownsRow w.heap.size 212 5 (.slice (some ⟨w.heap.size,0,none⟩) 0 0) 0 []:=World.ownsRow_made w #[] 0 (Nat.le_refl _) (Nat.zero_le _) (by simp);obtain⟨A,cap,rfl,h0,h1,h2,hl,ho,h3⟩:=h;cases A with
 | none =>
   have hN:N=0:=by
    by_cases hn:N=0
    ·exact hn
    ·obtain⟨_,_,e,_⟩:=h3 hn;cases e
   subst hN;have hcs:cs=[]:=List.length_eq_zero_iff.1 (by simpa using hl);subst hcs;clear h3 ho hl hs o0;go_enter Tryz.func213,Tryz.ntmps213;go_wp2_with fail;go_ret;exact⟨_,rfl,World.ownsRow_nil _ _ _ _,Below.refl _ _⟩
 | some ad =>
   obtain⟨v',w',hr,h4,h5,_⟩:=run_append_own (P:=Tryz.prog) (w.alloc (.cells #[] 212)) w.heap.size 53 53 212 i0 _ 5 8 mE hi hz0 hz1 hz2 rfl (by decide) _ 0 [] o0 ad N cap cs hl (λj u hj=>by
    have hn:N≠0:=λe=>by
     subst e;have:cs=[]:=List.length_eq_zero_iff.1 (by simpa using hl);subst this;simp at hj
    obtain⟨b,o,e,hb,hr⟩:=h3 hn;cases e;rw[Addr.add_lit];exact(D0.cell (p:=⟨b,o+j,none⟩) hb).trans (hr j u hj)) ho (by unfold maxLen;omega) (by omega) (by simp)
   have D1:=Below.appC D0 o0 h5 (Nat.le_refl _) (by simp);simp only[List.nil_append,Nat.zero_add]at h4;have fin:Hid (w'.ownsRow w.heap.size 212 5 v' N cs/\Below w.heap.size w w'):=⟨h4,D1⟩;clear h0 h1 h2 h3 h5 hs o0 D0 h4 D1 hl ho;go_enter Tryz.func213,Tryz.ntmps213;go_wp2_with (at_builtin;refine ah rfl _ _ 53 rfl rfl rfl hr ?_);go_ret;exact⟨_,rfl,fin.out⟩
theorem mF:Tryz.prog.underlying 54=some (.slice 210):=by kernel_rfl
theorem wP:(Tryz.prog.info? 210).map (λi=>(i.zero,i.size,i.bytes))=some (some (.agg #[.int .i64 0,.int .i64 0,.int .i64 0]),3,24):=by kernel_rfl
theorem wQ{v:Value}{N:Nat}{cs:List Value}(w:World)(h:ci w.heap.size w v N 3 cs)(hs:N<=1048576) :
  Calls Tryz.prog 214 #[v] w λe w'=>∃v',e=.returned v'/\w'.ownsRow w.heap.size 210 3 v' N cs/\Below w.heap.size w w':=by
 have q:∀(w:World) (a:Option Addr) (n c n' c':Nat),(binOp .eql 54 (.slice a n c) (.slice none n' c')).run Tryz.prog w=.ok (.bool a.isNone) w:=λw a n c n' c'=>Lib.run_eql_slice_nil w _ _ a n c n' c' mF;obtain⟨i0,hi,hz0,hz1,hz2⟩:=info_parts wP;have D0:=Below.alN (Below.refl w.heap.size w) (.cells #[] 210);have o0:(w.alloc (.cells #[] 210)).ownsRow w.heap.size 210 3 (.slice (some ⟨w.heap.size,0,none⟩) 0 0) 0 []:=World.ownsRow_made w #[] 0 (Nat.le_refl _) (Nat.zero_le _) (by simp);obtain⟨A,cap,rfl,h0,h1,h2,hl,ho,h3⟩:=h;cases A with
 | none =>
   have hN:N=0:=by
    by_cases hn:N=0
    ·exact hn
    ·obtain⟨_,_,e,_⟩:=h3 hn;cases e
   subst hN;have hcs:cs=[]:=List.length_eq_zero_iff.1 (by simpa using hl);subst hcs;clear h3 ho hl hs o0;go_enter Tryz.func214,Tryz.ntmps214;go_wp2_with fail;go_ret;exact⟨_,rfl,World.ownsRow_nil _ _ _ _,Below.refl _ _⟩
 | some ad =>
   obtain⟨v',w',hr,h4,h5,_⟩:=run_append_own (P:=Tryz.prog) (w.alloc (.cells #[] 210)) w.heap.size 54 54 210 i0 _ 3 24 mF hi hz0 hz1 hz2 rfl (by decide) _ 0 [] o0 ad N cap cs hl (λj u hj=>by
    have hn:N≠0:=λe=>by
     subst e;have:cs=[]:=List.length_eq_zero_iff.1 (by simpa using hl);subst this;simp at hj
    obtain⟨b,o,e,hb,hr⟩:=h3 hn;cases e;rw[Addr.add_lit];exact(D0.cell (p:=⟨b,o+j,none⟩) hb).trans (hr j u hj)) ho (by unfold maxLen;omega) (by omega) (by simp)
   have D1:=Below.appC D0 o0 h5 (Nat.le_refl _) (by simp);simp only[List.nil_append,Nat.zero_add]at h4;have fin:Hid (w'.ownsRow w.heap.size 210 3 v' N cs/\Below w.heap.size w w'):=⟨h4,D1⟩;clear h0 h1 h2 h3 h5 hs o0 D0 h4 D1 hl ho;go_enter Tryz.func214,Tryz.ntmps214;go_wp2_with (at_builtin;refine ah rfl _ _ 54 rfl rfl rfl hr ?_);go_ret;exact⟨_,rfl,fin.out⟩
theorem mG:Tryz.prog.underlying 22=some (.slice 56):=by kernel_rfl
theorem wR:(Tryz.prog.info? 56).map (λi=>(i.zero,i.size,i.bytes))=some (some (.agg #[.string ⟨#[]⟩,.int .i64 0,.int .i64 0,.int .u8 0,.slice none 0 0,.slice none 0 0,.slice none 0 0]),7,112):=by kernel_rfl
theorem wS{v:Value}{N:Nat}{cs:List Value}(w:World)(h:ci w.heap.size w v N 7 cs)(hs:N<=1048576) :
  Calls Tryz.prog 210 #[v] w λe w'=>∃v',e=.returned v'/\w'.ownsRow w.heap.size 56 7 v' N cs/\Below w.heap.size w w':=by
 have q:∀(w:World) (a:Option Addr) (n c n' c':Nat),(binOp .eql 22 (.slice a n c) (.slice none n' c')).run Tryz.prog w=.ok (.bool a.isNone) w:=λw a n c n' c'=>Lib.run_eql_slice_nil w _ _ a n c n' c' mG;obtain⟨i0,hi,hz0,hz1,hz2⟩:=info_parts wR;have D0:=Below.alN (Below.refl w.heap.size w) (.cells #[] 56);have o0:(w.alloc (.cells #[] 56)).ownsRow w.heap.size 56 7 (.slice (some ⟨w.heap.size,0,none⟩) 0 0) 0 []:=World.ownsRow_made w #[] 0 (Nat.le_refl _) (Nat.zero_le _) (by simp);obtain⟨A,cap,rfl,h0,h1,h2,hl,ho,h3⟩:=h;cases A with
 | none =>
   have hN:N=0:=by
    by_cases hn:N=0
    ·exact hn
    ·obtain⟨_,_,e,_⟩:=h3 hn;cases e
   subst hN;have hcs:cs=[]:=List.length_eq_zero_iff.1 (by simpa using hl);subst hcs;clear h3 ho hl hs o0;go_enter Tryz.func210,Tryz.ntmps210;go_wp2_with fail;go_ret;exact⟨_,rfl,World.ownsRow_nil _ _ _ _,Below.refl _ _⟩
 | some ad =>
   obtain⟨v',w',hr,h4,h5,_⟩:=run_append_own (P:=Tryz.prog) (w.alloc (.cells #[] 56)) w.heap.size 22 22 56 i0 _ 7 112 mG hi hz0 hz1 hz2 rfl (by decide) _ 0 [] o0 ad N cap cs hl (λj u hj=>by
    have hn:N≠0:=λe=>by
     subst e;have:cs=[]:=List.length_eq_zero_iff.1 (by simpa using hl);subst this;simp at hj
    obtain⟨b,o,e,hb,hr⟩:=h3 hn;cases e;rw[Addr.add_lit];exact(D0.cell (p:=⟨b,o+j,none⟩) hb).trans (hr j u hj)) ho (by unfold maxLen;omega) (by omega) (by simp)
   have D1:=Below.appC D0 o0 h5 (Nat.le_refl _) (by simp);simp only[List.nil_append,Nat.zero_add]at h4;have fin:Hid (w'.ownsRow w.heap.size 56 7 v' N cs/\Below w.heap.size w w'):=⟨h4,D1⟩;clear h0 h1 h2 h3 h5 hs o0 D0 h4 D1 hl ho;go_enter Tryz.func210,Tryz.ntmps210;go_wp2_with (at_builtin;refine ah rfl _ _ 22 rfl rfl rfl hr ?_);go_ret;exact⟨_,rfl,fin.out⟩
theorem eq{w w':World}{b o:Nat}(h:w'.heap[b]?=w.heap[b]?):w'.cell? ⟨b,o,none⟩=w.cell? ⟨b,o,none⟩:=by
 unfold World.cell?;rw[h]
def NotB(k:Nat)(v:Value):Prop:=∀b o n c,v=.slice (some ⟨b,o,none⟩) n c->n≠0->b≠k
def NotIn(lo hi:Nat)(v:Value):Prop:=∀b o n c,v=.slice (some ⟨b,o,none⟩) n c->n≠0->b<lo\/hi<=b
theorem NotIn.b{lo hi k:Nat}{v:Value}(h:NotIn lo hi v)(h1:lo<=k)(h2:k<hi):NotB k v:=λb o n c e hn=>by
 have:=h b o n c e hn;omega
theorem SlAt.setB{α:Type}{b9 n k j:Nat}{w:World}{R:List Value->α->Prop}{v u:Value}{xs:List α}(h:SlAt b9 w n R v xs)(hn:NotB k v):SlAt b9 (w.setCell ⟨k,j,none⟩ u) n R v xs:=by
 obtain⟨A,cap,rfl,h0,h1,h2,h3⟩:=h;refine⟨A,cap,rfl,h0,h1,h2,λhx=>?_⟩;obtain⟨b,o,rfl,hl,hr⟩:=h3 hx;have hb:b≠k:=hn b o _ _ rfl (λe=>hx (List.length_eq_zero_iff.1 e));refine⟨b,o,rfl,hl,λi x hi=>?_⟩;obtain⟨cs,c1,c2,c3⟩:=hr i x hi;exact⟨cs,c1,c2,λj' u' hj=>(eq (Below.heap_setCell w ⟨k,j,none⟩ u b hb)).trans (c3 j' u' hj)⟩
theorem SlAt.notIn{α:Type}{b9 n hi:Nat}{w:World}{R:List Value->α->Prop}{v:Value}{xs:List α}(h:SlAt b9 w n R v xs):NotIn b9 hi v:=λb o m c e hn=>by
 obtain⟨A,cap,rfl,h0,h1,h2,h3⟩:=h;obtain⟨b',o',e',hl,_⟩:=h3 (λe0=>hn (by cases e;rw[e0];rfl));cases e;cases e';exact .inl hl
theorem gm{b9 lo hi n N:Nat}{t:TypeId}{w:World}{v:Value}{cs:List Value}(h:w.ownsRow b9 t n v N cs)(hb:hi<=b9):NotIn lo hi v:=λb o m c e hn=>by
 rcases h.2 with⟨rfl,_⟩|⟨g,cap,cur,rfl,hg,_⟩
 ·cases e
 ·cases e;exact .inr (by omega)
def DvRow(lo hi g:Nat)(w:World)(ds:List Dv):Prop:=∀k d,ds[k]?=some d->∃vb vr vt,(w.cell? ⟨g,k*7,none⟩=some (.string d.name)/\w.cell? ⟨g,k*7+1,none⟩=some (.int .i64 d.kind)/\w.cell? ⟨g,k*7+2,none⟩=some (.int .i64 d.addr)/\w.cell? ⟨g,k*7+3,none⟩=some (.int .u8 (d.pool:Int))/\w.cell? ⟨g,k*7+4,none⟩=some vb/\w.cell? ⟨g,k*7+5,none⟩=some vr/\w.cell? ⟨g,k*7+6,none⟩=some vt)/\(SlAt w.heap.size w 1 IsI vb d.backs/\SlAt w.heap.size w 5 A9 vr d.rules/\SlAt w.heap.size w 3 C7 vt d.routes)/\NotIn lo hi vb/\NotIn lo hi vr/\NotIn lo hi vt
theorem cj{w:World}{a:Addr}{u v:Value}(h:w.cell? a=some v):(w.setCell a u).cell? a=some u:=by
 have hs:=kQ h;obtain⟨b,o,sp⟩:=a;simp only at hs;subst hs;simp[go_sem,h]
theorem i9{w:World}{b i j:Nat}{u:Value}(h:i≠j):(w.setCell ⟨b,j,none⟩ u).cell? ⟨b,i,none⟩=w.cell? ⟨b,i,none⟩:=by
 simp[go_sem]
section
variable {lo hi g:Nat}{w w':World}{ds:List Dv}
theorem DvRow.below(h:DvRow lo hi g w ds)(hb:Below w.heap.size w w'):DvRow lo hi g w' ds:=λk d hk=>by
 obtain⟨vb,vr,vt,⟨c0,c1,c2,c3,c4,c5,c6⟩,⟨s1,s2,s3⟩,n1,n2,n3⟩:=h k d hk;have C:=λ{o:Nat} {v:Value} (hc:w.cell? ⟨g,o,none⟩=some v)=>(hb.cell (World.block_lt_of_cell? w _ hc)).trans hc;exact⟨vb,vr,vt,⟨C c0,C c1,C c2,C c3,C c4,C c5,C c6⟩,⟨SlAt.mono (SlAt.below s1 hb (λ_ _ _ h=>h)) hb.size (λ_ _ _ h=>h),SlAt.mono (SlAt.below s2 hb (λ_ _ _ h=>h)) hb.size (λ_ _ _ h=>h),SlAt.mono (SlAt.below s3 hb (λ_ _ _ h=>h)) hb.size (λ_ _ _ h=>h)⟩,n1,n2,n3⟩
theorem DvRow.other(h:DvRow lo hi g w ds){k j:Nat}{u:Value}(hne:g≠k)(h1:lo<=k)(h2:k<hi):DvRow lo hi g (w.setCell ⟨k,j,none⟩ u) ds:=λi d hi'=>by
 obtain⟨vb,vr,vt,⟨c0,c1,c2,c3,c4,c5,c6⟩,⟨s1,s2,s3⟩,n1,n2,n3⟩:=h i d hi';have C:=λ{o:Nat} {v:Value} (hc:w.cell? ⟨g,o,none⟩=some v)=>(eq (o:=o) (Below.heap_setCell w ⟨k,j,none⟩ u g hne)).trans hc;have sz:(w.setCell ⟨k,j,none⟩ u).heap.size=w.heap.size:=by simp[World.setCell]
 rw[sz];exact⟨vb,vr,vt,⟨C c0,C c1,C c2,C c3,C c4,C c5,C c6⟩,⟨s1.setB (n1.b h1 h2),s2.setB (n2.b h1 h2),s3.setB (n3.b h1 h2)⟩,n1,n2,n3⟩
theorem DvRow.set4(h:DvRow lo hi g w ds){k:Nat}{d:Dv}{u:Value}(hk:ds[k]?=some d)(hs:SlAt w.heap.size w 1 IsI u d.backs)(hn:NotIn lo hi u)(h1:lo<=g)(h2:g<hi):DvRow lo hi g (w.setCell ⟨g,k*7+4,none⟩ u) ds:=λi d' hi'=>by
 have sz:(w.setCell ⟨g,k*7+4,none⟩ u).heap.size=w.heap.size:=by simp[World.setCell]
 rw[sz];by_cases e:i=k
 ·subst e;rw[hk]at hi';obtain rfl:=Option.some.inj hi';obtain⟨vb,vr,vt,⟨c0,c1,c2,c3,c4,c5,c6⟩,⟨s1,s2,s3⟩,n1,n2,n3⟩:=h i d hk;exact⟨u,vr,vt,⟨(i9 (by omega)).trans c0,(i9 (by omega)).trans c1,(i9 (by omega)).trans c2,(i9 (by omega)).trans c3,(cj c4),(i9 (by omega)).trans c5,(i9 (by omega)).trans c6⟩,⟨hs.setB (hn.b h1 h2),s2.setB (n2.b h1 h2),s3.setB (n3.b h1 h2)⟩,hn,n2,n3⟩
 ·obtain⟨vb,vr,vt,⟨e0,e1,e2,e3,e4,e5,e6⟩,⟨s1,s2,s3⟩,n1,n2,n3⟩:=h i d' hi';exact⟨vb,vr,vt,⟨(i9 (by omega)).trans e0,(i9 (by omega)).trans e1,(i9 (by omega)).trans e2,(i9 (by omega)).trans e3,(i9 (by omega)).trans e4,(i9 (by omega)).trans e5,(i9 (by omega)).trans e6⟩,⟨s1.setB (n1.b h1 h2),s2.setB (n2.b h1 h2),s3.setB (n3.b h1 h2)⟩,n1,n2,n3⟩
theorem DvRow.set5(h:DvRow lo hi g w ds){k:Nat}{d:Dv}{u:Value}(hk:ds[k]?=some d)(hs:SlAt w.heap.size w 5 A9 u d.rules)(hn:NotIn lo hi u)(h1:lo<=g)(h2:g<hi):DvRow lo hi g (w.setCell ⟨g,k*7+5,none⟩ u) ds:=λi d' hi'=>by
 have sz:(w.setCell ⟨g,k*7+5,none⟩ u).heap.size=w.heap.size:=by simp[World.setCell]
 rw[sz];by_cases e:i=k
 ·subst e;rw[hk]at hi';obtain rfl:=Option.some.inj hi';obtain⟨vb,vr,vt,⟨c0,c1,c2,c3,c4,c5,c6⟩,⟨s1,s2,s3⟩,n1,n2,n3⟩:=h i d hk;exact⟨vb,u,vt,⟨(i9 (by omega)).trans c0,(i9 (by omega)).trans c1,(i9 (by omega)).trans c2,(i9 (by omega)).trans c3,(i9 (by omega)).trans c4,(cj c5),(i9 (by omega)).trans c6⟩,⟨s1.setB (n1.b h1 h2),hs.setB (hn.b h1 h2),s3.setB (n3.b h1 h2)⟩,n1,hn,n3⟩
 ·obtain⟨vb,vr,vt,⟨e0,e1,e2,e3,e4,e5,e6⟩,⟨s1,s2,s3⟩,n1,n2,n3⟩:=h i d' hi';exact⟨vb,vr,vt,⟨(i9 (by omega)).trans e0,(i9 (by omega)).trans e1,(i9 (by omega)).trans e2,(i9 (by omega)).trans e3,(i9 (by omega)).trans e4,(i9 (by omega)).trans e5,(i9 (by omega)).trans e6⟩,⟨s1.setB (n1.b h1 h2),s2.setB (n2.b h1 h2),s3.setB (n3.b h1 h2)⟩,n1,n2,n3⟩
theorem DvRow.set6(h:DvRow lo hi g w ds){k:Nat}{d:Dv}{u:Value}(hk:ds[k]?=some d)(hs:SlAt w.heap.size w 3 C7 u d.routes)(hn:NotIn lo hi u)(h1:lo<=g)(h2:g<hi):DvRow lo hi g (w.setCell ⟨g,k*7+6,none⟩ u) ds:=λi d' hi'=>by
 have sz:(w.setCell ⟨g,k*7+6,none⟩ u).heap.size=w.heap.size:=by simp[World.setCell]
 rw[sz];by_cases e:i=k
 ·subst e;rw[hk]at hi';obtain rfl:=Option.some.inj hi';obtain⟨vb,vr,vt,⟨c0,c1,c2,c3,c4,c5,c6⟩,⟨s1,s2,s3⟩,n1,n2,n3⟩:=h i d hk;exact⟨vb,vr,u,⟨(i9 (by omega)).trans c0,(i9 (by omega)).trans c1,(i9 (by omega)).trans c2,(i9 (by omega)).trans c3,(i9 (by omega)).trans c4,(i9 (by omega)).trans c5,(cj c6)⟩,⟨s1.setB (n1.b h1 h2),s2.setB (n2.b h1 h2),hs.setB (hn.b h1 h2)⟩,n1,n2,hn⟩
 ·obtain⟨vb,vr,vt,⟨e0,e1,e2,e3,e4,e5,e6⟩,⟨s1,s2,s3⟩,n1,n2,n3⟩:=h i d' hi';exact⟨vb,vr,vt,⟨(i9 (by omega)).trans e0,(i9 (by omega)).trans e1,(i9 (by omega)).trans e2,(i9 (by omega)).trans e3,(i9 (by omega)).trans e4,(i9 (by omega)).trans e5,(i9 (by omega)).trans e6⟩,⟨s1.setB (n1.b h1 h2),s2.setB (n2.b h1 h2),s3.setB (n3.b h1 h2)⟩,n1,n2,n3⟩
end
theorem DvRow.devs{lo hi g:Nat}{w:World}{ds:List Dv}{cap:Nat}(h:DvRow lo hi g w ds)(hg:g<w.heap.size)(h1:ds.length<=cap)(h2:cap<=maxLen):Devs w.heap.size w (.slice (some ⟨g,0,none⟩) ds.length cap) ds:=by
 refine⟨_,cap,rfl,(λe=>by cases e),h1,h2,λ_=>⟨g,0,rfl,hg,λk d hk=>?_⟩⟩;obtain⟨vb,vr,vt,⟨c0,c1,c2,c3,c4,c5,c6⟩,⟨s1,s2,s3⟩,_⟩:=h k d hk;refine⟨[.string d.name,.int .i64 d.kind,.int .i64 d.addr,.int .u8 (d.pool:Int),vb,vr,vt],rfl,⟨vb,vr,vt,rfl,s1,s2,s3⟩,λj u hj=>?_⟩;rw[Nat.zero_add]
 match j,hj with
 | 0,hj=>obtain rfl:=Option.some.inj hj;exact c0
 | 1,hj=>obtain rfl:=Option.some.inj hj;exact c1
 | 2,hj=>obtain rfl:=Option.some.inj hj;exact c2
 | 3,hj=>obtain rfl:=Option.some.inj hj;exact c3
 | 4,hj=>obtain rfl:=Option.some.inj hj;exact c4
 | 5,hj=>obtain rfl:=Option.some.inj hj;exact c5
 | 6,hj=>obtain rfl:=Option.some.inj hj;exact c6
def IsB(w:World)(g:Nat):Prop:=∃cs t,Bk w g cs t
theorem IsB.below{w w':World}{g:Nat}(h:IsB w g)(hb:Below w.heap.size w w'):IsB w' g:=by
 obtain⟨cs,t,h⟩:=h;exact⟨cs,t,h.keep hb⟩
theorem IsB.set{w:World}{g k j:Nat}{u:Value}(h:IsB w g):IsB (w.setCell ⟨k,j,none⟩ u) g:=by
 obtain⟨cs,t,h⟩:=h;by_cases e:g=k
 ·subst e;exact⟨_,t,h.setS u⟩
 ·exact⟨cs,t,h.setO e u⟩
theorem IsB.fz{w:World}{g:Nat}(h:IsB w g)(o:Nat):w.frozen? ⟨g,o,none⟩=false:=by
 obtain⟨cs,t,h⟩:=h;exact h.fz o
def Fresh(lo:Nat)(w:World)(A:Option Addr)(cap:Nat)(w0:World)(ds:List Dv):Prop :=
 (A=none->cap=0)/\ds.length<=cap/\cap<=maxLen/\(ds.length≠0->∃g,A=some ⟨g,0,none⟩/\lo<=g/\g<w.heap.size/\IsB w g/\∀k d,ds[k]?=some d->∃vb vr vt,(w.cell? ⟨g,k*7,none⟩=some (.string d.name)/\w.cell? ⟨g,k*7+1,none⟩=some (.int .i64 d.kind)/\w.cell? ⟨g,k*7+2,none⟩=some (.int .i64 d.addr)/\w.cell? ⟨g,k*7+3,none⟩=some (.int .u8 (d.pool:Int))/\w.cell? ⟨g,k*7+4,none⟩=some vb/\w.cell? ⟨g,k*7+5,none⟩=some vr/\w.cell? ⟨g,k*7+6,none⟩=some vt)/\(SlAt w0.heap.size w0 1 IsI vb d.backs/\SlAt w0.heap.size w0 5 A9 vr d.rules/\SlAt w0.heap.size w0 3 C7 vt d.routes))
theorem Fresh.below{lo:Nat}{w w' w0:World}{A:Option Addr}{cap:Nat}{ds:List Dv}(h:Fresh lo w A cap w0 ds)(hb:Below w.heap.size w w'):Fresh lo w' A cap w0 ds:=by
 obtain⟨h0,h1,h2,h3⟩:=h;refine⟨h0,h1,h2,λhn=>?_⟩;obtain⟨g,e,hl,hg,hB,hr⟩:=h3 hn;refine⟨g,e,hl,Nat.lt_of_lt_of_le hg hb.size,hB.below hb,λk d hk=>?_⟩;obtain⟨vb,vr,vt,⟨c0,c1,c2,c3,c4,c5,c6⟩,s⟩:=hr k d hk;have C:=λ{o:Nat} {v:Value} (hc:w.cell? ⟨g,o,none⟩=some v)=>(hb.cell (World.block_lt_of_cell? w _ hc)).trans hc;exact⟨vb,vr,vt,⟨C c0,C c1,C c2,C c3,C c4,C c5,C c6⟩,s⟩
theorem Fresh.set{lo k j:Nat}{w w0:World}{A:Option Addr}{cap:Nat}{ds:List Dv}{u:Value}(h:Fresh lo w A cap w0 ds)(hne:∀g',A=some ⟨g',0,none⟩->ds.length≠0->g'≠k):Fresh lo (w.setCell ⟨k,j,none⟩ u) A cap w0 ds:=by
 obtain⟨h0,h1,h2,h3⟩:=h;refine⟨h0,h1,h2,λhn=>?_⟩;obtain⟨g,e,hl,hg,hB,hr⟩:=h3 hn;have hgk:=hne g e hn;refine⟨g,e,hl,by simpa[World.setCell]using hg,hB.set,λk' d hk=>?_⟩;obtain⟨vb,vr,vt,⟨c0,c1,c2,c3,c4,c5,c6⟩,s⟩:=hr k' d hk;have C:=λ{o:Nat} {v:Value} (hc:w.cell? ⟨g,o,none⟩=some v)=>(eq (o:=o) (Below.heap_setCell w ⟨k,j,none⟩ u g hgk)).trans hc;exact⟨vb,vr,vt,⟨C c0,C c1,C c2,C c3,C c4,C c5,C c6⟩,s⟩
theorem Fresh.lo{lo lo':Nat}{w w0:World}{A:Option Addr}{cap:Nat}{ds:List Dv}(h:Fresh lo w A cap w0 ds)(hl:lo'<=lo):Fresh lo' w A cap w0 ds:=by
 obtain⟨h0,h1,h2,h3⟩:=h;refine⟨h0,h1,h2,λhn=>?_⟩;obtain⟨g,e,hg,r⟩:=h3 hn;exact⟨g,e,by omega,r⟩
theorem Fresh.lt{lo:Nat}{w w0:World}{A:Option Addr}{cap:Nat}{ds:List Dv}(h:Fresh lo w A cap w0 ds){g':Nat}(e:A=some ⟨g',0,none⟩)(hn:ds.length≠0):lo<=g'/\g'<w.heap.size:=by
 obtain⟨g,e',h1,h2,_⟩:=h.2.2.2 hn;rw[e]at e';cases e';exact⟨h1,h2⟩
theorem Fresh.row{lo hi:Nat}{w w0:World}{A:Option Addr}{cap:Nat}{ds:List Dv}(h:Fresh lo w A cap w0 ds)(hb:Below w0.heap.size w0 w)(hn:ds.length≠0):∃g,A=some ⟨g,0,none⟩/\lo<=g/\g<w.heap.size/\IsB w g/\DvRow w0.heap.size hi g w ds:=by
 obtain⟨g,e,hl,hg,hB,hr⟩:=h.2.2.2 hn;refine⟨g,e,hl,hg,hB,λk d hk=>?_⟩;obtain⟨vb,vr,vt,c,⟨s1,s2,s3⟩⟩:=hr k d hk;exact⟨vb,vr,vt,c,⟨SlAt.mono (SlAt.below s1 hb (λ_ _ _ h=>h)) hb.size (λ_ _ _ h=>h),SlAt.mono (SlAt.below s2 hb (λ_ _ _ h=>h)) hb.size (λ_ _ _ h=>h),SlAt.mono (SlAt.below s3 hb (λ_ _ _ h=>h)) hb.size (λ_ _ _ h=>h)⟩,s1.notIn,s2.notIn,s3.notIn⟩
theorem wT{v:Value}{ds:List Dv}{w0:World}(W:World)(h:Devs w0.heap.size w0 v ds)(hb:Below w0.heap.size w0 W)(hs:ds.length<=1048576) :
  Calls Tryz.prog 210 #[v] W λe w'=>∃A cap,e=.returned (.slice A ds.length cap)/\Fresh W.heap.size w' A cap w0 ds/\Below W.heap.size W w':=by
 obtain⟨cs,hr,hf⟩:=SlAt.row h (λcs x hx=>oneDv cs x hx);have hr':ci W.heap.size W v ds.length 7 cs:=by
  obtain⟨A,cap,e,h0,h1,h2,hl,ho,h3⟩:=hr;refine⟨A,cap,e,h0,h1,h2,hl,ho,λhn=>?_⟩;obtain⟨b,o,ea,hlt,hc⟩:=h3 hn;exact⟨b,o,ea,Nat.lt_of_lt_of_le hlt hb.size,λj u hj=>(hb.cell (p:=⟨b,o+j,none⟩) hlt).trans (hc j u hj)⟩
 refine(wS W hr' hs).mono λe w' ⟨v',he,how,hbw⟩=>?_;have hs':=SlAt.own (R:=λcs d=>∃w1:World,w1=w0/\IsDv w0.heap.size w1 cs d) how (λk x hx=>⟨w0,rfl,hf k x hx⟩);obtain⟨A,cap,rfl,h0,h1,h2,h3⟩:=hs';refine⟨A,cap,he,⟨h0,h1,h2,λhn=>?_⟩,hbw⟩;obtain⟨b,o,ea,hlt,hc⟩:=h3 (λe0=>hn (by rw[e0];rfl));rcases how.2 with⟨hv,_⟩|⟨g,d8,cur,hv,hg,hcur,_⟩
 ·rw[ea]at hv;cases hv
 ·rw[ea]at hv;simp only[Value.slice.injEq,Option.some.injEq,Addr.mk.injEq,and_true,true_and]at hv;obtain⟨⟨rfl,rfl⟩,_⟩:=hv;refine⟨b,ea,hg,hlt,⟨_,_,hcur⟩,λk d hk=>?_⟩;obtain⟨c,_,⟨w1,rfl,vb,vr,vt,rfl,s1,s2,s3⟩,hcc⟩:=hc k d hk;simp only[Nat.zero_add]at hcc;exact⟨vb,vr,vt,⟨hcc 0 _ rfl,hcc 1 _ rfl,hcc 2 _ rfl,hcc 3 _ rfl,hcc 4 _ rfl,hcc 5 _ rfl,hcc 6 _ rfl⟩,⟨s1,s2,s3⟩⟩
theorem wU{v:Value}{xs:List Int}(W:World)(h:SlAt W.heap.size W 1 IsI v xs)(hs:xs.length<=1048576) :
  Calls Tryz.prog 212 #[v] W λe w'=>∃A cap,e=.returned (.slice A xs.length cap)/\SlAt w'.heap.size w' 1 IsI (.slice A xs.length cap) xs/\(∀lo hi,hi<=W.heap.size->NotIn lo hi (.slice A xs.length cap))/\Below W.heap.size W w':=by
 obtain⟨cs,hr,hf⟩:=SlAt.row h (λcs x hx=>oneI cs x hx);refine(wK W hr hs).mono λe w' ⟨v',he,how,hbw⟩=>?_;have hs':=SlAt.own (R:=IsI) how hf;obtain⟨A,cap,rfl,h0⟩:=id hs';exact⟨A,cap,he,hs',λlo hi hh=>gm how hh,hbw⟩
theorem wV{v:Value}{xs:List NRule}(W:World)(h:SlAt W.heap.size W 5 A9 v xs)(hs:xs.length<=1048576) :
  Calls Tryz.prog 213 #[v] W λe w'=>∃A cap,e=.returned (.slice A xs.length cap)/\SlAt w'.heap.size w' 5 A9 (.slice A xs.length cap) xs/\(∀lo hi,hi<=W.heap.size->NotIn lo hi (.slice A xs.length cap))/\Below W.heap.size W w':=by
 obtain⟨cs,hr,hf⟩:=SlAt.row h (λcs x hx=>oneRule cs x hx);refine(wO W hr hs).mono λe w' ⟨v',he,how,hbw⟩=>?_;have hs':=SlAt.own (R:=A9) how hf;obtain⟨A,cap,rfl,h0⟩:=id hs';exact⟨A,cap,he,hs',λlo hi hh=>gm how hh,hbw⟩
theorem wW{v:Value}{xs:List NRoute}(W:World)(h:SlAt W.heap.size W 3 C7 v xs)(hs:xs.length<=1048576) :
  Calls Tryz.prog 214 #[v] W λe w'=>∃A cap,e=.returned (.slice A xs.length cap)/\SlAt w'.heap.size w' 3 C7 (.slice A xs.length cap) xs/\(∀lo hi,hi<=W.heap.size->NotIn lo hi (.slice A xs.length cap))/\Below W.heap.size W w':=by
 obtain⟨cs,hr,hf⟩:=SlAt.row h (λcs x hx=>oneRoute cs x hx);refine(wQ W hr hs).mono λe w' ⟨v',he,how,hbw⟩=>?_;have hs':=SlAt.own (R:=C7) how hf;obtain⟨A,cap,rfl,h0⟩:=id hs';exact⟨A,cap,he,hs',λlo hi hh=>gm how hh,hbw⟩
theorem wX{v:Value}{xs:List Lk}(W:World)(h:SlAt W.heap.size W 4 S7 v xs)(hs:xs.length<=1048576) :
  Calls Tryz.prog 211 #[v] W λe w'=>∃A cap,e=.returned (.slice A xs.length cap)/\SlAt w'.heap.size w' 4 S7 (.slice A xs.length cap) xs/\(∀lo hi,hi<=W.heap.size->NotIn lo hi (.slice A xs.length cap))/\Below W.heap.size W w':=by
 obtain⟨cs,hr,hf⟩:=SlAt.row h (λcs x hx=>oneLk cs x hx);refine(wM W hr hs).mono λe w' ⟨v',he,how,hbw⟩=>?_;have hs':=SlAt.own (R:=S7) how hf;obtain⟨A,cap,rfl,h0⟩:=id hs';exact⟨A,cap,he,hs',λlo hi hh=>gm how hh,hbw⟩
structure Small(ds:List Dv)(ls:List Lk):Prop where
 nd:ds.length<=1048576
 nl:ls.length<=1048576
 backs:∀d∈ds,d.backs.length<=1048576
 rules:∀d∈ds,d.rules.length<=1048576
 routes:∀d∈ds,d.routes.length<=1048576
theorem NotB.of{k:Nat}{v:Value}(h:∀lo hi,hi<=k+1->NotIn lo hi v):NotB k v:=(h 0 (k+1) (Nat.le_refl _)).b (Nat.zero_le _) (Nat.lt_succ_self _)
section
variable {w w':World}{B e size n:Nat}{v:Value}{xs:List Value}
theorem aB(h:w.ownsRow B e size v n xs)(hb:Below w.heap.size w w'):w'.ownsRow B e size v n xs:=cT h (KeptBS.of_below hb) (λg _=>by simp)
theorem mH(w:World)(u:Value)(e:TypeId)(hB:B<=w.heap.size):(w.alloc (.cells #[u] e)).ownsRow B e 1 (.slice (some ⟨w.heap.size,0,none⟩) 1 1) 1 [u] :=
 ⟨rfl,Or.inr ⟨w.heap.size,1,#[u],rfl,hB,Go.Deep.blk_alloc_new w _,Nat.le_refl _,by unfold maxLen;omega,rfl,rfl⟩⟩
theorem U7(h:w.ownsRow B e size v n xs)(hn:n≠0):∃g cap,v=.slice (some ⟨g,0,none⟩) n cap/\B<=g/\g<w.heap.size/\n<=cap/\cap<=maxLen/\(∀j,w.frozen? ⟨g,j,none⟩=false)/\∀j u,xs[j]?=some u->w.cell? ⟨g,j,none⟩=some u:=by
 obtain⟨hl,⟨_,h0⟩|⟨g,cap,cur,rfl,hB,hg,h1,h2,h3,h4⟩⟩:=h
 ·exact absurd h0 hn
 refine⟨g,cap,rfl,hB,(Array.getElem?_eq_some_iff.1 hg).1,h1,h2,λj=>by simp[World.frozen?,hg],λj u hj=>?_⟩;rw[<- h4]at hj;have:=List.getElem?_take (l:=cur.toList) (i:=n*size) (j:=j);rw[hj]at this;simp only[World.cell?,hg]
 split at this
 ·simpa using this.symm
 ·cases this
theorem eu(B e size:Nat):w.ownsRow B e size (.slice none 0 0) 0 []:=⟨by simp,Or.inl ⟨rfl,rfl⟩⟩
theorem ew(h:w.ownsRow B e size v n xs):∃A cap,v=.slice A n cap:=by
 obtain⟨_,⟨rfl,rfl⟩|⟨g,cap,_,rfl,_⟩⟩:=h
 ·exact⟨none,0,rfl⟩
 ·exact⟨_,cap,rfl⟩
end
def p8(f:List Int):List Value:=f.map (Value.int .i64)
theorem dj{f:List Int}{k:Nat}{x:Int}(h:f[k]?=some x):(p8 f)[k]?=some (.int .i64 x):=by simp[p8,h]
theorem mI(f:List Int)(x:Int):p8 (f++[x])=p8 f++[.int .i64 x]:=by simp[p8]
theorem dk{w:World}{B e:Nat}{v:Value}{f:List Int}(h:w.ownsRow B e 1 v f.length (p8 f)):SlAt w.heap.size w 1 IsI v f :=
 SlAt.own h λk x hk=>by
  show _=_;rw[Nat.mul_one,List.drop_eq_getElem_cons (by simp[p8];exact(List.getElem?_eq_some_iff.1 hk).1)];have:=dj hk;rw[List.getElem?_eq_some_iff]at this;obtain⟨_,e⟩:=this;simp[e]
structure SAr(w:World)(vd vl v:Value)(f:List Int)(W:World):Prop where
 be:Below w.heap.size w W
 bN:Bk W w.heap.size #[vd,vl] 25
 row:W.ownsRow (w.heap.size+1) 3 1 v f.length (p8 f)
section
variable {w W W':World}{vd vl v:Value}{f:List Int}
theorem SAr.below(h:SAr w vd vl v f W)(hb:Below W.heap.size W W'):SAr w vd vl v f W':=⟨g8 hb h.be,Bk.keep hb h.bN,aB h.row hb⟩
theorem SAr.size(h:SAr w vd vl v f W):w.heap.size<W.heap.size:=h.bN.lt
theorem mJ:Tryz.prog.underlying 50=some (.slice 3):=by kernel_rfl
theorem mK:(Tryz.prog.info? 3).map (λi=>(i.zero,i.size,i.bytes))=some (some (.int .i64 0),1,8):=by kernel_rfl
theorem SAr.app(h:SAr w vd vl v f W)(x:Int)(hn:f.length<=100) :
  ∃g cap W1,(Builtin.append_ #[50,50] 50 #[v,.slice (some ⟨W.heap.size,0,none⟩) 1 1]).run Tryz.prog (W.alloc (.cells #[.int .i64 x] 3))=.ok (.slice (some ⟨g,0,none⟩) (f.length+1) cap) W1/\SAr w vd vl (.slice (some ⟨g,0,none⟩) (f.length+1) cap) (f++[x]) W1:=by
 obtain⟨v',W1,hr,h1,h2,h3,_⟩:=ba mJ mK rfl (by omega) (by omega) 50 h.row (us:=[.int .i64 x]) rfl (by simp[Value.oneCell']) (by omega) h.size;obtain⟨g,cap,rfl,_⟩:=U7 h1 (by omega);refine⟨g,cap,W1,hr,⟨?_,?_,by rw[List.length_append,mI];exact h1⟩⟩
 ·exact h.be.trans (h2.mono (by omega))
 ·exact(h2.block _ (by omega)).trans h.bN
end
end Go.Proofs.YtppbfikimalojaaGreat
namespace Go.Proofs
open Go.Shelf
def Tryz.lays189_ren:Go.Shelf.Ren:=⟨fun | 189=>64 | 125=>110 | 257=>109 | 128=>161 | 129=>162 | 294=>152 | 295=>153 | 296=>154 | 297=>155 | 298=>156 | 299=>157 | 216=>158 | 300=>159 | 301=>160 | 328=>187 | 329=>188 | 330=>189 | 331=>190 | 332=>191 | 215=>192 | 343=>215|n=>n,fun | 28=>50 | 3=>3 | 46=>173 | 0=>0 | 51=>222 | 53=>225 | 4=>4 | 183=>235 | 182=>234 | 131=>106 | 5=>5 | 9=>9 | 218=>252 | 222=>256 | 228=>272 | 229=>273|n=>n,fun|n=>n⟩
theorem Tryz.lays189:Go.Proofs.Lays.n189 Tryz.prog Tryz.lays189_ren:={
 mixed:=by kernel_rfl
 f125:=Tryz.func110.trans (congrArg some (by kernel_rfl))
 f128:=Tryz.func161.trans (congrArg some (by kernel_rfl))
 f129:=Tryz.func162.trans (congrArg some (by kernel_rfl))
 f189:=Tryz.func64.trans (congrArg some (by kernel_rfl))
 f215:=Tryz.func192.trans (congrArg some (by kernel_rfl))
 f216:=Tryz.func158.trans (congrArg some (by kernel_rfl))
 f257:=Tryz.func109.trans (congrArg some (by kernel_rfl))
 f294:=Tryz.func152.trans (congrArg some (by kernel_rfl))
 f295:=Tryz.func153.trans (congrArg some (by kernel_rfl))
 f296:=Tryz.func154.trans (congrArg some (by kernel_rfl))
 f297:=Tryz.func155.trans (congrArg some (by kernel_rfl))
 f298:=Tryz.func156.trans (congrArg some (by kernel_rfl))
 f299:=Tryz.func157.trans (congrArg some (by kernel_rfl))
 f300:=Tryz.func159.trans (congrArg some (by kernel_rfl))
 f301:=Tryz.func160.trans (congrArg some (by kernel_rfl))
 f328:=Tryz.func187.trans (congrArg some (by kernel_rfl))
 f329:=Tryz.func188.trans (congrArg some (by kernel_rfl))
 f330:=Tryz.func189.trans (congrArg some (by kernel_rfl))
 f331:=Tryz.func190.trans (congrArg some (by kernel_rfl))
 f332:=Tryz.func191.trans (congrArg some (by kernel_rfl))
 f343:=Tryz.func215.trans (congrArg some (by kernel_rfl))
 t0:=Tryz.underlying0
 a0:=Tryz.isAgg0
 z0:=Tryz.sizeOf0
 v0:=Tryz.zeroValue0
 t3:=Tryz.underlying3
 a3:=Tryz.isAgg3
 z3:=Tryz.sizeOf3
 v3:=Tryz.zeroValue3
 t4:=Tryz.underlying4
 a4:=Tryz.isAgg4
 z4:=Tryz.sizeOf4
 v4:=Tryz.zeroValue4
 t5:=Tryz.underlying5
 a5:=Tryz.isAgg5
 z5:=Tryz.sizeOf5
 v5:=Tryz.zeroValue5
 t9:=Tryz.underlying9
 a9:=Tryz.isAgg9
 z9:=Tryz.sizeOf9
 v9:=Tryz.zeroValue9
 t28:=Tryz.underlying50
 a28:=Tryz.isAgg50
 z28:=Tryz.sizeOf50
 v28:=Tryz.zeroValue50
 t46:=Tryz.underlying173
 a46:=Tryz.isAgg173
 z46:=Tryz.sizeOf173
 v46:=Tryz.zeroValue173
 t51:=Tryz.underlying222
 a51:=Tryz.isAgg222
 z51:=Tryz.sizeOf222
 v51:=Tryz.zeroValue222
 t53:=Tryz.underlying225
 a53:=Tryz.isAgg225
 z53:=Tryz.sizeOf225
 v53:=Tryz.zeroValue225
 t131:=Tryz.underlying106
 a131:=Tryz.isAgg106
 z131:=Tryz.sizeOf106
 v131:=Tryz.zeroValue106
 t182:=Tryz.underlying234
 a182:=Tryz.isAgg234
 z182:=Tryz.sizeOf234
 v182:=Tryz.zeroValue234
 t183:=Tryz.underlying235
 a183:=Tryz.isAgg235
 z183:=Tryz.sizeOf235
 v183:=Tryz.zeroValue235
 t218:=Tryz.underlying252
 a218:=Tryz.isAgg252
 z218:=Tryz.sizeOf252
 v218:=Tryz.zeroValue252
 t222:=Tryz.underlying256
 a222:=Tryz.isAgg256
 z222:=Tryz.sizeOf256
 v222:=Tryz.zeroValue256
 t228:=Tryz.underlying272
 a228:=Tryz.isAgg272
 z228:=Tryz.sizeOf272
 v228:=Tryz.zeroValue272
 t229:=Tryz.underlying273
 a229:=Tryz.isAgg273
 z229:=Tryz.sizeOf273
 v229:=Tryz.zeroValue273 }
open Go.Sort Go.RowKit in
theorem Tryz.slices_Sort_int(blk off cap:Nat)(zs:List Int)(w:World)(hH:Holds (Value.int .i64) w blk off zs.toArray)(hblk:blk<w.heap.size)(hsz:zs.length<4611686018427387904) :
  Calls Tryz.prog 64 #[.slice (some ⟨blk,off,none⟩) zs.length cap] w λe w' =>
   e=.returned (.tuple #[])/\∃n os,w'=grow (putRow (Value.int .i64) (Sort.ahead w n) blk off (zs.mergeSort λx y=>decide (x<=y)).toArray) os:=Any.slices_Sort_int Tryz.lays189 blk off cap zs w hH hblk hsz
def Tryz.laysNm225_ren:Go.Shelf.Ren:=⟨fun | 25=>185 | 31=>158 | 32=>209 | 37=>192|n=>n,fun | 22=>50 | 3=>3 | 4=>4 | 40=>173 | 0=>0|n=>n,fun|n=>n⟩
theorem Tryz.laysNm225:Go.Proofs.Lays2.n25 Tryz.prog Tryz.laysNm225_ren:={
 mixed:=by kernel_rfl
 f25:=Tryz.func185.trans (congrArg some (by kernel_rfl))
 f31:=Tryz.func158.trans (congrArg some (by kernel_rfl))
 f32:=Tryz.func209.trans (congrArg some (by kernel_rfl))
 f37:=Tryz.func192.trans (congrArg some (by kernel_rfl))
 t0:=Tryz.underlying0
 a0:=Tryz.isAgg0
 z0:=Tryz.sizeOf0
 v0:=Tryz.zeroValue0
 t3:=Tryz.underlying3
 a3:=Tryz.isAgg3
 z3:=Tryz.sizeOf3
 v3:=Tryz.zeroValue3
 t4:=Tryz.underlying4
 a4:=Tryz.isAgg4
 z4:=Tryz.sizeOf4
 v4:=Tryz.zeroValue4
 t22:=Tryz.underlying50
 a22:=Tryz.isAgg50
 z22:=Tryz.sizeOf50
 v22:=Tryz.zeroValue50
 t40:=Tryz.underlying173
 a40:=Tryz.isAgg173
 z40:=Tryz.sizeOf173
 v40:=Tryz.zeroValue173 }
open Go.RowKit Go.Lib in
theorem Tryz.slices_BinarySearch_int(b off n c:Nat)(zs:List Int)(x:Int)(w:World)(hz:n<=zs.length)(hbig:n<4611686018427387904)(hc:∀j,j<zs.length->w.cell? ⟨b,off+j,none⟩=some (.int .i64 (zs.getD j 0)))(hs:(zs.take n).Pairwise (· <= ·)) :
  Calls Tryz.prog 185 #[.slice (some ⟨b,off,none⟩) n c,.int .i64 x] w λe w'=>e=.returned (.tuple #[.int .i64 ((zs.take n).countP (·<x):Nat),.bool ((zs.take n).contains x)])/\∃q,w'=w.drewN q:=Any.slices_BinarySearch_int Tryz.laysNm225 b off n c zs x w hz hbig hc hs
end Go.Proofs
namespace Go.Proofs.YtppbfikimalojaaGreat
open Go.RowKit Go.Maps
theorem mL{w:World}{B g c:Nat}{f:List Int}(h:w.ownsRow B 3 1 (.slice (some ⟨g,0,none⟩) f.length c) f.length (p8 f))(hlt:f.length<1000) :
  Calls Tryz.prog 64 #[.slice (some ⟨g,0,none⟩) f.length c] w λe w'=>e=.returned (.tuple #[])/\w'.ownsRow B 3 1 (.slice (some ⟨g,0,none⟩) f.length c) f.length (p8 (f.mergeSort λx y=>decide (x<=y)))/\Below B w w':=by
 obtain⟨hl,⟨h0,_⟩|⟨g',cap,cur,h0,hB,hg,h1,h2,h3,h4⟩⟩:=h
 ·cases h0
 cases h0;have hgl:g<w.heap.size:=(Array.getElem?_eq_some_iff.1 hg).1;have hcu:∀j,j<f.length->cur[j]?=some (.int .i64 (f.getD j 0)):=λj hj=>by
  have e1:(cur.toList.take (f.length*1))[j]?=(p8 f)[j]?:=by rw[h4]
  rw[List.getElem?_take,if_pos (by omega)]at e1;rw[<- Array.getElem?_toList,e1,dj (x:=f.getD j 0) (by rw[List.getD_eq_getElem?_getD,List.getElem?_eq_getElem hj];rfl)]
 have hH:Go.Sort.Holds (Value.int .i64) w g 0 f.toArray:=λj hj=>by
  have hj':j<f.length:=by simpa using hj
  refine⟨?_,by simp[World.frozen?,hg]⟩;simp only[World.cell?,hg,Nat.zero_add];have:=hcu j hj';rw[List.getD_eq_getElem?_getD,List.getElem?_eq_getElem hj']at this;simp[this,hj']
 refine(Tryz.slices_Sort_int g 0 c f w hH hgl (by omega)).mono λe w' ⟨h5,n,os,h6⟩=>⟨h5,?_⟩;have hys:(f.mergeSort λx y=>decide (x<=y)).length=f.length:=List.length_mergeSort f;generalize (f.mergeSort λx y=>decide (x<=y))=ys at h6 hys ⊢;subst h6;have hh:∀k,k<w.heap.size->(Go.Sort.grow (Go.Sort.putRow (Value.int .i64) (Go.Sort.ahead w n) g 0 ys.toArray) os).heap[k]?=if g=k then some (.cells (Go.Sort.putCells (Value.int .i64) 0 ys.toArray cur) 3 (0,0))else w.heap[k]?:=λk hk=>by
  have:k<(Go.Sort.putRow (Value.int .i64) (Go.Sort.ahead w n) g 0 ys.toArray).heap.size:=by simpa[Go.Sort.putRow,Go.Sort.mapBlock,Go.Sort.ahead]using hk
  simp only[Go.Sort.grow];rw[Array.getElem?_append_left this];simp only[Go.Sort.putRow,Go.Sort.mapBlock,Go.Sort.ahead,Array.getElem?_modify]
  split
  ·rename_i e
   subst e;rw[hg];rfl
  ·rfl
 refine⟨⟨by simp[p8,hys],Or.inr ⟨g,c,Go.Sort.putCells (Value.int .i64) 0 ys.toArray cur,rfl,hB,?_,h1,h2,by simp[Go.Sort.putCells];omega,?_⟩⟩,?_⟩
 ·rw[hh g hgl,if_pos rfl]
 ·apply List.ext_getElem?;intro j;rw[List.getElem?_take]
  split
  ·rename_i hj
   have hj':j<f.length:=by omega
   rw[Array.getElem?_toList];simp only[Go.Sort.putCells,Array.getElem?_mapIdx,hcu j hj',Option.map_some];rw[if_pos ⟨by omega,by simp;omega⟩];simp[p8,hys,hj']
  ·rw[List.getElem?_eq_none (by simp[p8];omega)]
 ·refine⟨rfl,rfl,rfl,?_,λk hk=>?_⟩
  ·simp[Go.Sort.grow,Go.Sort.putRow,Go.Sort.mapBlock,Go.Sort.ahead]
  ·rw[hh k (by omega),if_neg (by omega)]
theorem wY(A B:Option Addr)(cap d8:Nat)(ds:List Dv)(ls:List Lk)(s:Nat)(w:World)(hz:Hid (netV ds ls=0))(hs:s<ds.length)(hD:Hid (Devs w.heap.size w (.slice A ds.length cap) ds))(hL:Hid (Links w.heap.size w (.slice B ls.length d8) ls)) :
  Calls Tryz.prog 149 #[.agg #[.slice A ds.length cap,.slice B ls.length d8],.int .i64 (s:Int)] w λe w'=>∃g c,e=.returned (.slice (some ⟨g,0,none⟩) (wholeF ds ls s).length c)/\w'.ownsRow w.heap.size 3 1 (.slice (some ⟨g,0,none⟩) (wholeF ds ls s).length c) (wholeF ds ls s).length (p8 (wholeF ds ls s))/\Below w.heap.size w w':=by
 obtain⟨b0,o0,_,_,_,rfl,hb0,-⟩:=hD.out.at (List.getElem?_eq_getElem hs);have h10:ds.length<=10:=(l7 hz.out).1;have hcap:=hD.out.len.2;unfold maxLen at hcap;have V0:SAr w (.slice (some ⟨b0,o0,none⟩) ds.length cap) (.slice B ls.length d8) (.slice (some ⟨w.heap.size+1,0,none⟩) 1 1) [(s:Int)] ((w.alloc (.cells #[.slice (some ⟨b0,o0,none⟩) ds.length cap,.slice B ls.length d8] 25)).alloc (.cells #[.int .i64 (s:Int)] 3)):=by
  refine⟨Below.alloc' (Below.alloc' (Below.refl _ _) _) _,(i7 _ _ _).alloc _,?_⟩;have:=mH (B:=w.heap.size+1) (w.alloc (.cells #[.slice (some ⟨b0,o0,none⟩) ds.length cap,.slice B ls.length d8] 25)) (.int .i64 (s:Int)) 3 (by simp);simpa[p8]using this
 have VN:Hid (∀v f W,SAr w (.slice (some ⟨b0,o0,none⟩) ds.length cap) (.slice B ls.length d8) v f W->w.heap.size<W.heap.size/\W.cell? ⟨w.heap.size,0,none⟩=some (.slice (some ⟨b0,o0,none⟩) ds.length cap)/\W.cell? ⟨w.heap.size,1,none⟩=some (.slice B ls.length d8)):=λv f W h=>⟨h.size,h.bN.two.1,h.bN.two.2⟩;have VP:Hid (∀v f W (d p:Int),SAr w (.slice (some ⟨b0,o0,none⟩) ds.length cap) (.slice B ls.length d8) v f W->Calls Tryz.prog 67 #[.agg #[.slice (some ⟨b0,o0,none⟩) ds.length cap,.slice B ls.length d8],plA d p] W λe w'=>e=.returned (.tuple #[E9 (peerF ls d p),.bool (peerF ls d p).isSome])/\SAr w (.slice (some ⟨b0,o0,none⟩) ds.length cap) (.slice B ls.length d8) v f w'):=λv f W d p h =>
  (il _ _ _ _ ls d p W ((hL.out.below h.be).mono h.be.size)).mono λe w' ⟨h1,h2⟩=>⟨h1,h.below h2⟩
 have VL:Hid (∀v f W o,SAr w (.slice (some ⟨b0,o0,none⟩) ds.length cap) (.slice B ls.length d8) v f W->SAr w (.slice (some ⟨b0,o0,none⟩) ds.length cap) (.slice B ls.length d8) v f (W.alloc o)):=λv f W o h=>h.below (Below.alloc' (Below.refl _ _) _);have VC:Hid (∀g c f W W' (x:Int),SAr w (.slice (some ⟨b0,o0,none⟩) ds.length cap) (.slice B ls.length d8) (.slice (some ⟨g,0,none⟩) f.length c) f W->W'=W->Calls Tryz.prog 63 #[.slice (some ⟨g,0,none⟩) f.length c,.int .i64 x] W' λe w'=>e=.returned (.bool (f.any (λy=>y == x)))/\w'=W):=λg c f W W' x h e=>by
  subst e;exact dG _ _ _ f x _ W' (dk h.row)
 have VA:Hid (∀v f W (x:Int),SAr w (.slice (some ⟨b0,o0,none⟩) ds.length cap) (.slice B ls.length d8) v f W->f.length<=100->∃g cq W1,(Builtin.append_ #[50,50] 50 #[v,.slice (some ⟨W.heap.size,0,none⟩) 1 1]).run Tryz.prog (W.alloc (.cells #[.int .i64 x] 3))=.ok (.slice (some ⟨g,0,none⟩) (f.length+1) cq) W1/\SAr w (.slice (some ⟨b0,o0,none⟩) ds.length cap) (.slice B ls.length d8) (.slice (some ⟨g,0,none⟩) (f.length+1) cq) (f++[x]) W1):=λv f W x h hn=>h.app x hn;have VS:Hid (∀g c f W,SAr w (.slice (some ⟨b0,o0,none⟩) ds.length cap) (.slice B ls.length d8) (.slice (some ⟨g,0,none⟩) f.length c) f W->f.length≠0->f.length<=c/\c<=2 ^ 63-1/\g<W.heap.size/\∀j x,f[j]?=some x->W.cell? ⟨g,j,none⟩=some (.int .i64 x)):=λg c f W h hn=>by
  obtain⟨g',c',h1,_,hg,h2,h3,_,h4⟩:=U7 h.row hn;cases h1;exact⟨h2,h3,hg,λj x hj=>h4 j _ (dj hj)⟩
 have VD:Hid (∀v f W,SAr w (.slice (some ⟨b0,o0,none⟩) ds.length cap) (.slice B ls.length d8) v f W->∀j d,ds[j]?=some d->W.cell? ⟨b0,o0+j*7+1,none⟩=some (.int .i64 d.kind)/\b0<W.heap.size):=λv f W h j d hj=>by
  obtain⟨b,o,_,_,_,e,hb,_,_,_,_,c1,_⟩:=(hD.out.below h.be).at hj;cases e;exact⟨c1,Nat.lt_of_lt_of_le hb0 h.be.size⟩
 have VF:Hid (∀g c f W,SAr w (.slice (some ⟨b0,o0,none⟩) ds.length cap) (.slice B ls.length d8) (.slice (some ⟨g,0,none⟩) f.length c) f W->f.length<=10->Calls Tryz.prog 64 #[.slice (some ⟨g,0,none⟩) f.length c] W λe w'=>e=.returned (.tuple #[])/\Hid (w'.ownsRow w.heap.size 3 1 (.slice (some ⟨g,0,none⟩) f.length c) f.length (p8 (f.mergeSort λx y=>decide (x<=y)))/\Below w.heap.size w w')):=λg c f W h hf =>
  (mL h.row (by omega)).mono λe w' ⟨h1,h2,h3⟩=>⟨h1,by
    obtain⟨q1,q2⟩:=h2;refine⟨⟨q1,?_⟩,h.be.trans (h3.mono (by omega))⟩;rcases q2 with q2|⟨g',c',cur,e,hB,q2⟩
    ·exact Or.inl q2
    ·exact Or.inr ⟨g',c',cur,e,by omega,q2⟩⟩
 have PT:Hid (∀(k:Int) (W:World),Calls Tryz.prog 54 #[.int .i64 k] W λe w'=>e=.returned (.int .i64 (portsV k))/\w'=W):=λk W=>fM k W;generalize hV:SAr w (.slice (some ⟨b0,o0,none⟩) ds.length cap) (.slice B ls.length d8)=V at *;clear hV hD hL;go_enter Tryz.func149,Tryz.ntmps149;go_wp2_with fail;go_loopw[5,6] (λs5 s6 wr=>∃(i g c:Nat) (f:List Int),s5=.slice (some ⟨g,0,none⟩) f.length c/\s6=.int .i64 (i:Int)/\i<=f.length/\f.length≠0/\Hid (FOk ds f)/\V s5 f wr/\Hid (aroundF ds ls (10-i) i f=aroundF ds ls 10 0 [(s:Int)])) (λ_ s6 _=>11-(intOf s6).toNat)
 case atStart=>exact⟨0,_,_,[(s:Int)],rfl,rfl,by simp,by simp,FOk.one hs,by simpa using V0,rfl⟩
 case round =>
  obtain⟨i,g,c,f,rfl,rfl,hi,hf0,hok,V1,hno⟩:=hrel;have hfl:=hok.out.len;obtain⟨n1,n2,n3⟩:=VN.out _ _ _ V1;obtain⟨q1,q2,q3,q4⟩:=VS.out _ _ _ _ V1 hf0;by_cases hlt:i<f.length
  ·obtain⟨d,hd⟩:∃d,f[i]?=some d:=⟨_,List.getElem?_eq_getElem hlt⟩;have q5:=q4 i d hd;obtain⟨d0,d1⟩:=hok.out.lt d (List.mem_of_getElem? hd);obtain⟨j,rfl⟩:∃j:Nat,d=(j:Int):=⟨d.toNat,by omega⟩;obtain⟨dv,hdv⟩:∃dv,ds[j]?=some dv:=⟨_,List.getElem?_eq_getElem (by omega)⟩;obtain⟨c1,hb1⟩:=VD.out _ _ _ V1 j dv hdv;obtain⟨P,hP,hP4⟩:=lk dv.kind;have hK:Hid (aroundF ds ls (10-i) i f=aroundF ds ls (10-(i+1)) (i+1) (O4 ls (j:Int) P f)):=by
    rw[show 10-i=(10-(i+1))+1 by omega];show _=_;rw[uA hd];have e:k9 ds (j:Int)=dv.kind:=by simp[k9,hdv]
    rw[e,hP];rfl
   have PT2:Hid (∀W:World,Calls Tryz.prog 54 #[.int .i64 dv.kind] W λe w'=>e=.returned (.int .i64 (P:Int))/\w'=W):=λW=>by rw[<- hP];exact PT.out _ W
   have i1:(0:Int)<=(i:Int):=by omega
   have i2:(i:Int)<(f.length:Int):=by omega
   have j1:(0:Int)<=(j:Int):=by omega
   have j2:(j:Int)<(ds.length:Int):=by omega
   clear q4 hP PT hdv hd d0 d1;go_wp2_with (go_at_call 54;refine(PT2.out _).mono ?_;rintro e w'⟨rfl,rfl⟩);go_loopw[5,30] (λs5 s30 wr=>∃(k g c:Nat) (q:List Int),s5=.slice (some ⟨g,0,none⟩) q.length c/\s30=.int .i64 (k:Int)/\k<=P/\q.length≠0/\V s5 q wr/\Hid (q=O4 ls (j:Int) k f)) (λ_ s30 _=>P-(intOf s30).toNat)
   case atStart=>exact⟨0,_,_,f,rfl,rfl,by omega,hf0,V1,rfl⟩
   case round =>
    obtain⟨k,g2,c2,q,rfl,rfl,hk,hq0,V2,hq⟩:=hrel;have hq10:q.length<=10:=by
     have:=(FOk.portsF hz.out (j:Int) k hok.out).len;rw[<- hq.out]at this;omega
    obtain⟨m1,m2,m3⟩:=VN.out _ _ _ V2;by_cases hkP:k<P
    ·have PE:=VP.out _ _ _ (j:Int) (k:Int) V2;have HS:Hid (O4 ls (j:Int) (k+1) f=addFo q (peerF ls (j:Int) (k:Int))):=by
      show _=_;rw[hq.out];rfl
     clear n1 n2 n3 q1 q2 q3 q5 c1 hb1 V1 V0;cases hp:peerF ls (j:Int) (k:Int)with
     | none =>
       rw[hp]at PE HS;have PE:Hid (Calls Tryz.prog 67 #[.agg #[.slice (some ⟨b0,o0,none⟩) ds.length cap,.slice B ls.length d8],plA (j:Int) (k:Int)] wr λe w'=>e=.returned (.tuple #[.agg #[.int .i64 0,.int .i64 0],.bool false])/\V (.slice (some ⟨g2,0,none⟩) q.length c2) q w'):=PE;clear hp;go_wp2_with (go_at_call 67;refine PE.out.mono ?_;rintro e w'⟨rfl,V3⟩);go_roundw
       case rel=>exact⟨k+1,g2,c2,q,rfl,by go_num,by omega,hq0,VL.out _ _ _ _ V3,HS.out.symm⟩
       case measure=>simp[intOf];omega
     | some x =>
       rw[hp]at PE HS;obtain⟨x1,x2⟩:=x;have PE:Hid (Calls Tryz.prog 67 #[.agg #[.slice (some ⟨b0,o0,none⟩) ds.length cap,.slice B ls.length d8],plA (j:Int) (k:Int)] wr λe w'=>e=.returned (.tuple #[.agg #[.int .i64 x1,.int .i64 x2],.bool true])/\V (.slice (some ⟨g2,0,none⟩) q.length c2) q w'):=PE;clear hp;cases ha:q.any (λy=>y == x1)with
       | true =>
         have CT:Hid (∀W W',V (.slice (some ⟨g2,0,none⟩) q.length c2) q W->W'=W->Calls Tryz.prog 63 #[.slice (some ⟨g2,0,none⟩) q.length c2,.int .i64 x1] W' λe w'=>e=.returned (.bool true)/\w'=W):=λW W' h e=>by
          have:=VC.out _ _ _ W W' x1 h e;rw[ha]at this;exact this
         go_wp2_with (first|(go_at_call 67;refine PE.out.mono ?_;rintro e w'⟨rfl,V3⟩)|(go_at_call 63;refine(CT.out _ _ (VL.out _ _ _ _ V3) rfl).mono ?_;rintro e w'⟨rfl,rfl⟩));go_roundw
         case rel=>exact⟨k+1,g2,c2,q,rfl,by go_num,by omega,hq0,VL.out _ _ _ _ V3,(by show _=_;rw[HS.out];simp[addFo,ha])⟩
         case measure=>simp[intOf];omega
       | false =>
         have CT:Hid (∀W W',V (.slice (some ⟨g2,0,none⟩) q.length c2) q W->W'=W->Calls Tryz.prog 63 #[.slice (some ⟨g2,0,none⟩) q.length c2,.int .i64 x1] W' λe w'=>e=.returned (.bool false)/\w'=W):=λW W' h e=>by
          have:=VC.out _ _ _ W W' x1 h e;rw[ha]at this;exact this
         have HS2:Hid (q++[x1]=O4 ls (j:Int) (k+1) f):=by
          show _=_;rw[HS.out];simp[addFo,ha]
         clear HS ha;go_upto_region 11 with(first|(go_at_call 67;refine PE.out.mono ?_;rintro e w'⟨rfl,V3⟩)|(go_at_call 63;refine(CT.out _ _ (VL.out _ _ _ _ V3) rfl).mono ?_;rintro e w'⟨rfl,rfl⟩))
         obtain⟨g4,c4,W4,hrun,V4⟩:=VA.out _ _ _ x1 (VL.out _ _ _ (.cells #[.int .i64 x1,.int .i64 x2] 27) V3) (by omega);simp only[World.size_alloc]at hrun
         iterate 13 go_step
         refine gQ rfl _ _ 50 rfl _ _ _ _ rfl rfl hrun ?_;simp only[Act.put,List.setIfInBounds_toArray,List.set_cons_zero,List.set_cons_succ];have hl2:q.length+1=(q++[x1]).length:=by simp
         rw[hl2]at V4 ⊢;clear hrun;go_wp2_with fail;go_roundw
         case rel=>exact⟨k+1,g4,c4,q++[x1],rfl,by go_num,by omega,by simp,V4,HS2⟩
         case measure=>simp[intOf];omega
    ·have hkE:k=P:=by omega
     subst hkE;clear n1 n2 n3 q1 q2 q3 q5 c1 hb1 V1 V0;have hno2:Hid (aroundF ds ls (10-(i+1)) (i+1) q=aroundF ds ls 10 0 [(s:Int)]):=by
      show _=_;rw[hq.out,<- hK.out];exact hno.out
     have hok2:Hid (FOk ds q):=by
      show FOk ds q;rw[hq.out];exact FOk.portsF hz.out _ _ hok.out
     have hle:i+1<=q.length:=by
      have:=ip (ls:=ls) (j:Int) k f;rw[<- hq.out]at this;omega
     clear hno hok hq hK;go_wp2_with fail;go_roundw
     case rel=>exact⟨i+1,g2,c2,q,rfl,by go_num,hle,hq0,hok2,V2,hno2⟩
     case measure=>simp[intOf];omega
  ·have hie:i=f.length:=by omega
   have hFin:Hid (wholeF ds ls (s:Int)=f.mergeSort λx y=>decide (x<=y)):=by
    show _=_;rw[wholeF,<- hno.out,uz (by omega)]
   have SO:=VF.out _ _ _ _ V1 (by omega);have hW:(wholeF ds ls (s:Int)).length=f.length:=by rw[hFin.out,List.length_mergeSort]
   have hng:¬(i:Int)<(f.length:Int):=by omega
   clear hno q4;go_wp2_with (go_at_call 64;refine SO.mono ?_;rintro e w'⟨rfl,hS⟩);go_ret;refine⟨g,c,by rw[hW];rfl,?_,hS.out.2⟩;rw[hW,hFin.out];exact hS.out.1
theorem below_drewN(W:World)(q:Nat):Below W.heap.size W (W.drewN q):=⟨rfl,rfl,rfl,Nat.le_refl _,λ_ _=>rfl⟩
theorem bj(W:World):Below W.heap.size W W.drew:=⟨rfl,rfl,rfl,Nat.le_refl _,λ_ _=>rfl⟩
def DvC(w:World)(gs:List Dv)(cs:List Value):Prop:=cs.length=gs.length*7/\∀k d,gs[k]?=some d->IsDv w.heap.size w ((cs.drop (k*7)).take 7) d
theorem DvC.nil(w:World):DvC w [] []:=⟨rfl,λk d h=>by simp at h⟩
theorem IsDv.len{b9:Nat}{w:World}{cs:List Value}{d:Dv}(h:IsDv b9 w cs d):cs.length=7:=by
 obtain⟨_,_,_,rfl,_⟩:=h;rfl
theorem DvC.app{w:World}{gs:List Dv}{cs us:List Value}{d:Dv}(h:DvC w gs cs)(hd:IsDv w.heap.size w us d):DvC w (gs++[d]) (cs++us):=by
 have hu:=hd.len;refine⟨by rw[List.length_append,List.length_append,h.1,hu,List.length_singleton];omega,λk x hk=>?_⟩;by_cases hkl:k<gs.length
 ·rw[List.getElem?_append_left hkl]at hk;have:=h.2 k x hk;have e:((cs++us).drop (k*7)).take 7=(cs.drop (k*7)).take 7:=by
   rw[List.drop_append_of_le_length (by rw[h.1];omega),List.take_append_of_le_length (by rw[List.length_drop,h.1];omega)]
  rw[e];exact this
 ·rw[List.getElem?_append_right (by omega)]at hk;have hk0:k-gs.length=0:=by
   rcases Nat.eq_zero_or_pos (k-gs.length)with h0|h0
   ·exact h0
   ·rw[List.getElem?_eq_none (by simp;omega)]at hk;cases hk
  rw[hk0]at hk;cases hk;have e:((cs++us).drop (k*7)).take 7=us:=by
   rw[show k*7=cs.length by rw[h.1];omega,List.drop_left,List.take_of_length_le (by omega)]
  rw[e];exact hd
def ai(l:Lk):List Value:=[.int .i64 l.a,.int .i64 l.p,.int .i64 l.b,.int .i64 l.q]
def aC(ls:List Lk):List Value:=ls.flatMap ai
theorem iz:∀(ls:List Lk) (k:Nat) (l:Lk),ls[k]?=some l->((aC ls).drop (k*4)).take 4=ai l
 | [],k,l,h=>by simp at h
 | x::ls,0,l,h=>by
   simp at h;subst h;simp[aC,ai]
 | x::ls,k+1,l,h=>by
   have h1:=iz ls k l (by simpa using h);have e:aC (x::ls)=ai x++aC ls:=by simp[aC]
   rw[e,show(k+1)*4=(ai x).length+k*4 by simp[ai];omega,<- List.drop_drop,List.drop_left];exact h1
theorem mM(ls:List Lk)(l:Lk):aC (ls++[l])=aC ls++ai l:=by simp[aC]
structure SOn(w:World)(vd vl vm vk:Value)(gs:List Dv)(ms:List Lk)(W:World):Prop where
 be:Below w.heap.size w W
 bN:Bk W w.heap.size #[vd,vl] 25
 bR:Bk W (w.heap.size+1) #[.slice none 0 0,.slice none 0 0] 25
 bM:Bk W (w.heap.size+2) #[vm,vk] 25
 rd:∃cs,W.ownsRow (w.heap.size+3) 56 7 vm gs.length cs/\DvC w gs cs
 rl:W.ownsRow (w.heap.size+3) 96 4 vk ms.length (aC ms)
section
variable {w W W':World}{vd vl vm vk:Value}{gs:List Dv}{ms:List Lk}
theorem SOn.below(h:SOn w vd vl vm vk gs ms W)(hb:Below W.heap.size W W'):SOn w vd vl vm vk gs ms W':=by
 obtain⟨cs,h1,h2⟩:=h.rd;exact⟨g8 hb h.be,Bk.keep hb h.bN,Bk.keep hb h.bR,Bk.keep hb h.bM,⟨cs,aB h1 hb,h2⟩,aB h.rl hb⟩
theorem SOn.start(w:World)(vd vl:Value):SOn w vd vl (.slice none 0 0) (.slice none 0 0) [] [] (((w.alloc (.cells #[vd,vl] 25)).alloc (.cells #[.slice none 0 0,.slice none 0 0] 25)).alloc (.cells #[.slice none 0 0,.slice none 0 0] 25)) :=
 ⟨Below.alloc' (Below.alloc' (Below.alloc' (Below.refl _ _) _) _) _,((i7 _ _ _).alloc _).alloc _,(E0 _ _ _ _ (by simp)).alloc _,E0 _ _ _ _ (by simp),⟨[],eu _ _ _,DvC.nil w⟩,eu _ _ _⟩
theorem SOn.size(h:SOn w vd vl vm vk gs ms W):w.heap.size+3<=W.heap.size:=h.bM.lt
theorem mN:Tryz.prog.underlying 22=some (.slice 56):=by kernel_rfl
theorem mO:(Tryz.prog.info? 56).map (λi=>(i.zero,i.size,i.bytes))=some (some (.agg #[.string ⟨#[]⟩,.int .i64 0,.int .i64 0,.int .u8 0,.slice none 0 0,.slice none 0 0,.slice none 0 0]),7,112):=by kernel_rfl
theorem mP:Tryz.prog.underlying 23=some (.slice 96):=by kernel_rfl
theorem mQ:(Tryz.prog.info? 96).map (λi=>(i.zero,i.size,i.bytes))=some (some (.agg #[.int .i64 0,.int .i64 0,.int .i64 0,.int .i64 0]),4,32):=by kernel_rfl
theorem R9{B e size n:Nat}{v:Value}{xs:List Value}(h:W.ownsRow B e size v n xs)(hk:∀g,v.ownBlock=some g->W'.heap[g]?=W.heap[g]?):W'.ownsRow B e size v n xs:=by
 obtain⟨h0,h1|⟨g,cap,cur,rfl,hB,hg,h2⟩⟩:=h
 ·exact⟨h0,Or.inl h1⟩
 ·exact⟨h0,Or.inr ⟨g,cap,cur,rfl,hB,(hk g rfl).trans hg,h2⟩⟩
theorem SOn.appD(h:SOn w vd vl vm vk gs ms W){nm:ByteArray}{k ad:Int}{pl:Nat}{vb vr vt:Value}{d:Dv}(hd:IsDv w.heap.size w [.string nm,.int .i64 k,.int .i64 ad,.int .u8 (pl:Int),vb,vr,vt] d)(hn:gs.length<=5000) :
  ∃g cq W1,(Builtin.append_ #[22,22] 22 #[vm,.slice (some ⟨W.heap.size,0,none⟩) 1 1]).run Tryz.prog (W.alloc (.cells #[.string nm,.int .i64 k,.int .i64 ad,.int .u8 (pl:Int),vb,vr,vt] 56))=.ok (.slice (some ⟨g,0,none⟩) (gs.length+1) cq) W1/\SOn w vd vl (.slice (some ⟨g,0,none⟩) (gs.length+1) cq) vk (gs++[d]) ms (W1.setCell ⟨w.heap.size+2,0,none⟩ (.slice (some ⟨g,0,none⟩) (gs.length+1) cq))/\W1.cell? ⟨w.heap.size+2,0,none⟩=some vm/\W1.frozen? ⟨w.heap.size+2,0,none⟩=false/\w.heap.size+2<W1.heap.size:=by
 obtain⟨cs,h1,h2⟩:=h.rd;have hsz:=h.size;have one:∀u∈[Value.string nm,.int .i64 k,.int .i64 ad,.int .u8 (pl:Int),vb,vr,vt],u.oneCell'=true:=oneDv _ _ hd;obtain⟨v',W1,hr,q1,q2,q3,_⟩:=ba mN mO rfl (by omega) (by omega) 22 h1 (us:=[.string nm,.int .i64 k,.int .i64 ad,.int .u8 (pl:Int),vb,vr,vt]) rfl one (by omega) hsz;obtain⟨g,cap,rfl,hg1,hg2,_⟩:=U7 q1 (by omega);have m1:Bk W1 (w.heap.size+2) #[vm,vk] 25:=(q2.block _ (by omega)).trans h.bM;have hF:∀i,i≠w.heap.size+2->(W1.setCell ⟨w.heap.size+2,0,none⟩ (.slice (some ⟨g,0,none⟩) (gs.length+1) cap)).heap[i]?=W1.heap[i]?:=λi hi=>Below.heap_setCell W1 ⟨w.heap.size+2,0,none⟩ _ i hi;refine⟨g,cap,W1,hr,⟨?_,(hF _ (by omega)).trans ((q2.block _ (by omega)).trans h.bN),(hF _ (by omega)).trans ((q2.block _ (by omega)).trans h.bR),m1.setS _,⟨cs++_,?_,h2.app hd⟩,?_⟩,m1.two.1,m1.fz 0,m1.lt⟩
 ·have b1:=h.be.trans (q2.mono (by omega));exact⟨b1.os,b1.tape,b1.output,by simp[World.setCell];exact b1.size,λi hi=>(hF i (by omega)).trans (b1.block i hi)⟩
 ·rw[List.length_append];exact R9 q1 λg' hg'=>hF g' (by have:g=g':=Option.some.inj hg';omega)
 ·refine R9 h.rl λg' hg'=>(hF g' ?_).trans (q3.block g' (q9 h.rl hg').1 ?_)
  ·have:=(q9 h.rl hg').2.1;omega
  ·exact λe=>cU h.rl h1 (by decide) g' hg' e.symm
theorem SOn.appL(h:SOn w vd vl vm vk gs ms W)(l:Lk)(hn:ms.length<=5000) :
  ∃g cq W1,(Builtin.append_ #[23,23] 23 #[vk,.slice (some ⟨W.heap.size,0,none⟩) 1 1]).run Tryz.prog (W.alloc (.cells #[.int .i64 l.a,.int .i64 l.p,.int .i64 l.b,.int .i64 l.q] 96))=.ok (.slice (some ⟨g,0,none⟩) (ms.length+1) cq) W1/\SOn w vd vl vm (.slice (some ⟨g,0,none⟩) (ms.length+1) cq) gs (ms++[l]) (W1.setCell ⟨w.heap.size+2,1,none⟩ (.slice (some ⟨g,0,none⟩) (ms.length+1) cq))/\W1.cell? ⟨w.heap.size+2,1,none⟩=some vk/\W1.frozen? ⟨w.heap.size+2,1,none⟩=false/\w.heap.size+2<W1.heap.size:=by
 obtain⟨cs,h1,h2⟩:=h.rd;have hsz:=h.size;obtain⟨v',W1,hr,q1,q2,q3,_⟩:=ba mP mQ rfl (by omega) (by omega) 23 h.rl (us:=ai l) rfl (by simp[ai,Value.oneCell']) (by omega) hsz;obtain⟨g,cap,rfl,hg1,hg2,_⟩:=U7 q1 (by omega);have m1:Bk W1 (w.heap.size+2) #[vm,vk] 25:=(q2.block _ (by omega)).trans h.bM;have hF:∀i,i≠w.heap.size+2->(W1.setCell ⟨w.heap.size+2,1,none⟩ (.slice (some ⟨g,0,none⟩) (ms.length+1) cap)).heap[i]?=W1.heap[i]?:=λi hi=>Below.heap_setCell W1 ⟨w.heap.size+2,1,none⟩ _ i hi;refine⟨g,cap,W1,hr,⟨?_,(hF _ (by omega)).trans ((q2.block _ (by omega)).trans h.bN),(hF _ (by omega)).trans ((q2.block _ (by omega)).trans h.bR),m1.setS _,⟨cs,?_,h2⟩,?_⟩,m1.two.2,m1.fz 1,m1.lt⟩
 ·have b1:=h.be.trans (q2.mono (by omega));exact⟨b1.os,b1.tape,b1.output,by simp[World.setCell];exact b1.size,λi hi=>(hF i (by omega)).trans (b1.block i hi)⟩
 ·refine R9 h1 λg' hg'=>(hF g' ?_).trans (q3.block g' (q9 h1 hg').1 ?_)
  ·have:=(q9 h1 hg').2.1;omega
  ·exact λe=>cU h1 h.rl (by decide) g' hg' e.symm
 ·rw[List.length_append,mM];exact R9 q1 λg' hg'=>hF g' (by have:g=g':=Option.some.inj hg';omega)
theorem SOn.devs(h:SOn w vd vl vm vk gs ms W):Devs W.heap.size W vm gs:=by
 obtain⟨cs,h1,h2⟩:=h.rd;exact SlAt.own h1 λk x hk=>((h2.2 k x hk).below h.be).mono h.be.size
theorem SOn.links(h:SOn w vd vl vm vk gs ms W):Links W.heap.size W vk ms:=SlAt.own h.rl λk x hk=>by
 rw[iz ms k x hk];rfl
end
end Go.Proofs.YtppbfikimalojaaGreat
