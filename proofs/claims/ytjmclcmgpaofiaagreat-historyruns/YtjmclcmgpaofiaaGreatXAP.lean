/-
  XAP.
-/
import Derived.Test.YtjmclcmgpaofiaaGreatXLy
import Derived.Test.YtjmclcmgpaofiaaGreatXAO
import Derived.Test.YtjmclcmgpaofiaaGreatXAG
import Derived.Maps.AppendAt
import Derived.Deep.Heap
import Derived.OneCell
import Derived.Great.BuildSlice
import Derived.Deep.CutRange
import Derived.Test.YtjmclcmgpaofiaaGreatXAJ
set_option maxHeartbeats 8000000
set_option maxRecDepth 100000
namespace Go.Proofs.YtjmclcmgpaofiaaGreat
open Tryz
open Go.RowKit Go.Maps
theorem yP(i j:Nat):∀k,exF (λ_=>false) i j k=λ_=>false
 | 0=>rfl
 | k+1=>by funext x;show exF _ i j k _=false;rw[yP i j k]
theorem li(i:Nat):∀k,anF (λ_=>false) i k=λ_=>false
 | 0=>rfl
 | k+1=>by funext x;show(anF _ i k _||anF _ i k _)=false;rw[li i k];rfl
theorem yQ(d:Dv)(q:Int)(x:Env):aI d q (λ_=>false) (λ_=>false) (λ_=>false) (λ_=>false) x=false:=by
 unfold aI
 split
 ·simp[orP]
 split
 ·split <;> simp
 split
 ·split <;> simp[li]
 split
 ·split <;> simp[li]
 ·rfl
open Classical in
noncomputable def ak (ds:List Dv)(ls:List Lk):Nat->Nat->Nat->Env->Bool
 | 0=>λa b x=>decide (iV ds ls ds.length ((a:Int),(b:Int)) x)
 | k+1=>λa b x=>decide (ak ds ls k a b x=true\/fA ds ls (λ_=>False) (ak ds ls k) ds.length 0 ((a:Int),(b:Int)) x)
section
variable {ds:List Dv}{ls:List Lk}{ns nsR:List Nd}{sw sn sx:Nat->Nat->Nat}{k:Nat}
theorem eh(a b:Nat)(x:Env):ak ds ls 0 a b x=true ↔ iV ds ls ds.length ((a:Int),(b:Int)) x:=by
 unfold ak;exact @decide_eq_true_iff _ (Classical.propDecidable _)
theorem cD(k a b:Nat)(x:Env):ak ds ls (k+1) a b x=true ↔ ak ds ls k a b x=true\/fA ds ls (λ_=>False) (ak ds ls k) ds.length 0 ((a:Int),(b:Int)) x:=by
 rw[ak];simp only[decide_eq_true_eq]
structure NInv(ds:List Dv)(ls:List Lk)(k:Nat)(ns:List Nd)(sw sn:Nat->Nat->Nat):Prop where
 ltw:∀a b,a<10->b<4->sw a b<ns.length
 ltn:∀a b,a<10->b<4->sn a b<ns.length
 fn:∀a b,a<10->b<4->ev ns (sn a b)=ak ds ls k a b
 was:(k=0 /\ ∀a b,a<10->b<4->ev ns (sw a b)=λ_=>false)\/∃j,k=j+1 /\ ∀a b,a<10->b<4->ev ns (sw a b)=ak ds ls j a b
theorem yR(h:HInv ds ls ds.length ns sn)(hW:Wf 14 ns):NInv ds ls 0 ns (λ_ _=>0) sn:=by
 refine⟨λ_ _ _ _=>Nat.lt_of_lt_of_le (by omega) hW.len,h.lt,λa b ha hb=>funext λx=>?_,Or.inl ⟨rfl,λ_ _ _ _=>funext λx=>ev0 _ x⟩⟩;rw[Bool.eq_iff_iff,h.fn a b ha hb x,eh]
theorem lj(h:NInv ds ls k nsR sw sn)(h10:ds.length<=10)(G:GInv ds ls (λi=>sn i 0=sw i 0 /\ sn i 1=sw i 1 /\ sn i 2=sw i 2 /\ sn i 3=sw i 3) (λa b=>ev nsR (sn a b)) ds.length 0 ns sx)(a b:Nat)(ha:a<10)(hb:b<4):ev ns (sx a b)=ak ds ls (k+1) a b:=by
 funext x
 rw[Bool.eq_iff_iff,G.fn a b ha hb x,cD,h.fn a b ha hb];refine⟨?_,?_⟩
 ·rintro(h1|⟨i,q,d,h1,_,h3,h4,h5,h6⟩)
  ·exact Or.inl h1
  ·have hi:i<10:=by
    have:=(List.getElem?_eq_some_iff.1 h3).1;omega
   dsimp only at h6;rw[h.fn i 0 hi (by omega),h.fn i 1 hi (by omega),h.fn i 2 hi (by omega),h.fn i 3 hi (by omega)]at h6;exact Or.inr ⟨i,q,d,h1,λh=>h,h3,h4,h5,h6⟩
 ·rintro(h1|⟨i,q,d,h1,_,h3,h4,h5,h6⟩)
  ·exact Or.inl h1
  ·have hi':=(List.getElem?_eq_some_iff.1 h3).1;have hi:i<10:=by omega
   by_cases hs:sn i 0=sw i 0 /\ sn i 1=sw i 1 /\ sn i 2=sw i 2 /\ sn i 3=sw i 3
   ·obtain⟨s0,s1,s2,s3⟩:=hs;rw[<- h.fn i 0 hi (by omega),<- h.fn i 1 hi (by omega),<- h.fn i 2 hi (by omega),<- h.fn i 3 hi (by omega),s0,s1,s2,s3]at h6;rcases h.was with⟨_,hw⟩|⟨j,rfl,hw⟩
    ·rw[hw i 0 hi (by omega),hw i 1 hi (by omega),hw i 2 hi (by omega),hw i 3 hi (by omega),yQ]at h6;cases h6
    ·rw[hw i 0 hi (by omega),hw i 1 hi (by omega),hw i 2 hi (by omega),hw i 3 hi (by omega)]at h6;exact Or.inl ((cD j a b x).2 (Or.inr ⟨i,q,d,h1,λh=>h,h3,h4,h5,h6⟩))
   ·rw[<- h.fn i 0 hi (by omega),<- h.fn i 1 hi (by omega),<- h.fn i 2 hi (by omega),<- h.fn i 3 hi (by omega)]at h6;exact Or.inr ⟨i,q,d,h1,hs,h3,h4,h5,h6⟩
theorem yS(h:NInv ds ls k nsR sw sn)(h10:ds.length<=10)(hW:Wf 14 nsR)(hW':Wf 14 ns)(X:Ext nsR ns)(G:GInv ds ls (λi=>sn i 0=sw i 0 /\ sn i 1=sw i 1 /\ sn i 2=sw i 2 /\ sn i 3=sw i 3) (λa b=>ev nsR (sn a b)) ds.length 0 ns sx):NInv ds ls (k+1) ns sn sx:=by
 have hlen:=X.len;refine⟨λa b ha hb=>Nat.lt_of_lt_of_le (h.ltn a b ha hb) hlen,G.lt,lj h h10 G,Or.inr ⟨k,rfl,λa b ha hb=>?_⟩⟩;rw[<- h.fn a b ha hb];exact funext (X.ev hW hW' _ (h.ltn a b ha hb))
theorem yT(h:NInv ds ls k nsR sw sn)(h10:ds.length<=10)(hW:Wf 14 nsR)(hW':Wf 14 ns)(X:Ext nsR ns)(G:GInv ds ls (λi=>sn i 0=sw i 0 /\ sn i 1=sw i 1 /\ sn i 2=sw i 2 /\ sn i 3=sw i 3) (λa b=>ev nsR (sn a b)) ds.length 0 ns sx)(he:∀a b,a<10->b<4->sx a b=sn a b)(a b:Nat)(ha:a<10)(hb:b<4):ak ds ls (k+1) a b=ak ds ls k a b:=by
 rw[<- lj h h10 G a b ha hb,he a b ha hb,<- h.fn a b ha hb];exact funext (X.ev hW hW' _ (h.ltn a b ha hb))
def fH(n:Nat):Env:=λv=>n.testBit v
noncomputable def aV (ds:List Dv)(ls:List Lk)(k:Nat):Nat :=
 (List.range 655360).countP λn=>ak ds ls k (n / 65536) (n / 16384 % 4) (fH (n % 16384))
theorem pu(k:Nat):aV ds ls k<=655360:=by
 unfold aV;exact Nat.le_trans List.countP_le_length (by simp)
theorem pw{p q:Nat->Bool}:∀{l:List Nat},(∀n∈l,p n=true->q n=true)->∀n0∈l,q n0=true->p n0=false->l.countP p<l.countP q
 | [],_,_,h0,_,_=>by cases h0
 | y::l,h,n0,h0,h1,h2=>by
   have hle:l.countP p<=l.countP q:=List.countP_mono_left λn hn=>h n (List.mem_cons_of_mem _ hn);rcases List.mem_cons.1 h0 with rfl|h0
   ·simp only[List.countP_cons,h1,h2];simp;omega
   ·have ih:=pw (λn hn=>h n (List.mem_cons_of_mem _ hn)) n0 h0 h1 h2;have hy:=h y List.mem_cons_self;simp only[List.countP_cons];cases hp:p y
    ·simp;omega
    ·rw[hy hp];simp;omega
theorem px(x:Env):∀k,∃n,n<2 ^ k /\ ∀v,v<k->n.testBit v=x v
 | 0=>⟨0,by simp,λv hv=>by omega⟩
 | k+1=>by
   obtain⟨n,hn,hx⟩:=px x k;have hp:2 ^ (k+1)=2 ^ k+2 ^ k:=by omega
   cases hk:x k
   ·refine⟨n,by omega,λv hv=>?_⟩;by_cases e:v=k
    ·rw[e,hk];exact Nat.testBit_lt_two_pow hn
    ·exact hx v (by omega)
   ·refine⟨2 ^ k+n,by omega,λv hv=>?_⟩;by_cases e:v=k
    ·rw[e,hk,Nat.testBit_two_pow_add_eq,Nat.testBit_lt_two_pow hn];rfl
    ·rw[Nat.testBit_two_pow_add_gt (by omega)];exact hx v (by omega)
theorem yU(x:Env):∃n,n<16384 /\ ∀v,v<14->fH n v=x v:=px x 14
theorem yV(h:NInv ds ls k nsR sw sn)(h10:ds.length<=10)(hW:Wf 14 nsR)(hW':Wf 14 ns)(X:Ext nsR ns)(G:GInv ds ls (λi=>sn i 0=sw i 0 /\ sn i 1=sw i 1 /\ sn i 2=sw i 2 /\ sn i 3=sw i 3) (λa b=>ev nsR (sn a b)) ds.length 0 ns sx){a b:Nat}(ha:a<10)(hb:b<4)(hne:sx a b≠sn a b):aV ds ls k<aV ds ls (k+1):=by
 have hlen:=X.len;have hln:=Nat.lt_of_lt_of_le (h.ltn a b ha hb) hlen;have hsn:ev ns (sn a b)=ak ds ls k a b:=by
  rw[<- h.fn a b ha hb];exact funext (X.ev hW hW' _ (h.ltn a b ha hb))
 obtain⟨e,he⟩:∃e,ev ns (sx a b) e≠ev ns (sn a b) e:=Classical.byContradiction λhc=>hne (lC hW' (G.lt a b ha hb) hln λe=>Classical.byContradiction λh2=>hc ⟨e,h2⟩);obtain⟨n,hn,hx⟩:=yU e;have d1:=ip hW' _ (G.lt a b ha hb) (fH n) e λi _ hi=>hx i hi;have d2:=ip hW' _ hln (fH n) e λi _ hi=>hx i hi;rw[<- d1,<- d2,lj h h10 G a b ha hb,hsn]at he;have hup:∀a b x,ak ds ls k a b x=true->ak ds ls (k+1) a b x=true:=λa b x h=>(cD k a b x).2 (Or.inl h);have q1:(a*65536+b*16384+n) / 65536=a:=by omega
 have q2:(a*65536+b*16384+n) / 16384 % 4=b:=by omega
 have q3:(a*65536+b*16384+n) % 16384=n:=by omega
 refine pw (λm _ hm=>hup _ _ _ hm) (a*65536+b*16384+n) (List.mem_range.2 (by omega)) ?_ ?_
 ·show ak ds ls (k+1) _ _ _=true;rw[q1,q2,q3];cases h1:ak ds ls (k+1) a b (fH n)
  ·cases h2:ak ds ls k a b (fH n)
   ·rw[h1,h2]at he;exact absurd rfl he
   ·rw[hup _ _ _ h2]at h1;cases h1
  ·rfl
 ·show ak ds ls k _ _ _=false;rw[q1,q2,q3];cases h2:ak ds ls k a b (fH n)
  ·rfl
  ·rw[h2,hup _ _ _ h2]at he;exact absurd rfl he
end
theorem Ar.copied{a9 a M a8 a7:Nat}{w:World}{ns:List Nd}(h:Ar a9 a M a8 a7 w ns) :
  ∃g cap,w.cell? ⟨a,0,none⟩=some (.int .i64 (a8:Int)) /\ w.cell? ⟨a,1,none⟩=some (.int .i64 (a7:Int)) /\ w.cell? ⟨a,2,none⟩=some (.slice (some ⟨g,0,none⟩) ns.length cap) /\ w.cell? ⟨a,3,none⟩=some (.map (some M)) /\
    ∀W,Below w w W->Ar a9 W.heap.size M a8 a7 (W.alloc (.cells #[(a8:Int),(a7:Int),.slice (some ⟨g,0,none⟩) ns.length cap,.map (some M),.slice none 0 0] 85)) ns:=by
 obtain⟨g,cap,cs,t,hb,hc,hrow⟩:=h.blk;refine⟨g,cap,?_,?_,?_,?_,λW hW=>?_⟩
 ·rw[cell_of_row w a 0 _ _ _ hb];exact hc.c0
 ·rw[cell_of_row w a 1 _ _ _ hb];exact hc.c1
 ·rw[cell_of_row w a 2 _ _ _ hb];exact hc.c2
 ·rw[cell_of_row w a 3 _ _ _ hb];exact hc.c3
 have hlo:a9<=W.heap.size:=Nat.le_trans h.lowA (Nat.le_trans (Nat.le_of_lt h.lta) hW.size);refine⟨h.wf,h.le,h.vars1,h.vars16,h.most4,hlo,h.lowM,⟨g,cap,_,_,Go.heap_alloc_new W _,⟨rfl,rfl,rfl,rfl,Or.inr rfl⟩,?_⟩,?_⟩
 ·refine⟨hrow.1,?_⟩;rcases hrow.2 with⟨hv,_⟩|⟨g',e9,cur,hv,hbase,hg,rest⟩
  ·cases hv
  ·simp only[Value.slice.injEq,Option.some.injEq,Addr.mk.injEq,and_true,true_and]at hv;obtain⟨rfl,rfl⟩:=hv;have hlt:g<w.heap.size:=(Array.getElem?_eq_some_iff.1 hg).1;exact .inr ⟨g,cap,cur,rfl,hbase,(Below.heap_alloc W _ g (Nat.lt_of_lt_of_le hlt hW.size)).trans ((hW.block g hlt).trans hg),rest⟩
 ·obtain⟨num,hm,hn⟩:=h.map;exact⟨num,hm.same ((Below.heap_alloc W _ M (Nat.lt_of_lt_of_le h.ltM hW.size)).trans (hW.block M h.ltM)),hn⟩
theorem yW(vd vl:Value)(ds:List Dv)(ls:List Lk)(m:Int)(w:World)(hD:Devs w w vd ds)(hL:Links w w vl ls)(hz:netV ds ls≠0) :
  CB 7 #[.agg #[vd,vl],m] w (.tuple #[.pointer none,(netV ds ls)]):=by
 have D1:Below w w (w.alloc (.cells #[vd,vl] 25)):=(Below.refl _ w).alloc (Nat.le_refl _) _;have CK:Hid (Cl 25 #[.agg #[vd,vl]] (w.alloc (.cells #[vd,vl] 25)) λe w'=>e=.returned (netV ds ls) /\ Below w w w'):=(kH vd vl ds ls _ ((hD.below D1).mono D1.size) ((hL.below D1).mono D1.size)).mono λe w' h=>⟨h.1,D1.trans (h.2.mono D1.size)⟩;clear hD hL D1;generalize netV ds ls=z at *;go_enter func7,ntmps7;go_wp2_with fail;with_reducible refine CK.out.mono ?_
 rintro e w1⟨rfl,hb1⟩;go_wp2_with fail;go_ret2;exact⟨rfl,hb1⟩
structure KeptB(w w':World)(row:Option Nat):Prop where
 size:w.heap.size<=w'.heap.size
 block:∀k,k<w.heap.size->some k≠row->w'.heap[k]?=w.heap[k]?
theorem KeptB.of_below{w w':World}(h:Below w w w'):KeptB w w' none:=⟨h.size,λk hk _=>h.block k hk⟩
section
variable {w w':World}{B e size n:Nat}{v:Value}{xs:List Value}{row:Option Nat}
theorem jC(h:w.ownsRow B e size v n xs){g:Nat}(hg:v.ownBlock=some g):g<w.heap.size /\ B<=g /\ ∃cur,w.heap[g]?=some (.cells cur e (0,0)):=by
 rcases h.2 with⟨rfl,_⟩|⟨g',cap,cur,rfl,hb,hh,_⟩
 ·cases hg
 ·obtain rfl:g'=g:=by simpa[Value.ownBlock]using hg
  exact⟨(Array.getElem?_eq_some_iff.1 hh).1,hb,cur,hh⟩
theorem jD(h:w.ownsRow B e size v n xs)(hk:KeptB w w' row)(hr:∀g,v.ownBlock=some g->row≠some g):w'.ownsRow B e size v n xs:=by
 refine⟨h.1,?_⟩;rcases h.2 with k|⟨g,cap,cur,h1,h2,h3,h4⟩
 ·exact Or.inl k
 ·refine Or.inr ⟨g,cap,cur,h1,h2,?_,h4⟩;rw[hk.block g (Array.getElem?_eq_some_iff.1 h3).1 (λe=>hr g (by rw[h1];rfl) e.symm)];exact h3
theorem yX(w:World)(g j:Nat)(u:Value):KeptB w (w.setCell ⟨g,j,none⟩ u) (some g):=⟨by rw[Go.Deep.nblk_setCell];exact Nat.le_refl _,λk _ hr=>Go.Deep.blk_setCell_other w ⟨g,j,none⟩ u k (λe=>hr (by rw[e]))⟩
end
theorem yY{t e:TypeId}{z:Value}{size bytes:Nat}(hu:prog.underlying t=some (.slice e))(hinfo:(prog.info? e).map (λi=>(i.zero,i.size,i.bytes))=some (some z,size,bytes))(hz1:z.cells.size=size)(hs0:0<size)(hby:bytes<=320)
  {a9 n:Nat} {w:World} {v:Value} {xs us:List Value} (ty:TypeId) (h:w.ownsRow a9 e size v n xs) (hus:us.length=size) (h1:∀u∈us,u.oneCell'=true) (hn:n<=700000) (hb:a9<=w.heap.size) :
  ∃v' w',(Builtin.append_ #[t,t] ty #[v,.slice (some ⟨w,0,none⟩) 1 1]).run prog (w.alloc (.cells us.toArray e))=.ok v' w' /\ w'.ownsRow a9 e size v' (n+1) (xs++us) /\ Below a9 w w' /\ KeptB w w' v.ownBlock /\ (v'.ownBlock=v.ownBlock\/∃g,v'.ownBlock=some g /\ w.heap.size<=g):=by
 obtain⟨i0,hi,hz0,hz1',hz2⟩:=info_parts hinfo;have hA:Below w w (w.alloc (.cells us.toArray e)):=(Below.refl _ _).alloc (Nat.le_refl _) _;have ho:(w.alloc (.cells us.toArray e)).ownsRow a9 e size v n xs:=jD h (KeptB.of_below hA) (λg _=>by simp);obtain⟨v',w',hr,h4,h5,_,h7⟩:=run_append_own_at (P:=prog) (w.alloc (.cells us.toArray e)) a9 t ty e i0 z size bytes hu hi hz0 hz1' hz2 hz1 hs0 v n xs ho ⟨w,0,none⟩ 1 1 us (by rw[hus,Nat.one_mul]) (λj x hj=>by
  have hg:(w.alloc (.cells us.toArray e)).heap[w.heap.size]?=some (.cells us.toArray e):=Go.Deep.blk_alloc_new w _;rw[Addr.add_lit,Nat.zero_add];simp only[World.cell?,hg];simp[hj]) h1 (by unfold maxLen;omega) (by
   have:(n+1)*bytes<=700001*320:=Nat.mul_le_mul (by omega) hby;omega) (by simp;omega)
 have hsz:(w.alloc (.cells us.toArray e)).heap.size=w.heap.size+1:=Go.Deep.nblk_alloc w _;refine⟨v',w',hr,h4,?_,⟨by have:=h5.size;omega,λk hk hne=>?_⟩,?_⟩
 ·exact((Below.refl a9 w).alloc hb (.cells us.toArray e)).grown h5 (by simp;omega) (λk e=>(ho.lt k e).1)
 ·rw[h5.block k (by omega) hne,Go.Deep.blk_alloc_lt w _ k hk]
 ·rcases h7 with h7|h7
  ·exact Or.inl h7
  ·exact Or.inr ⟨_,h7,by omega⟩
theorem py:(prog.info? 89).map (λi=>(i.zero,i.size,i.bytes))=some (some (.agg zeros40),40,320):=by kernel_rfl
theorem yZ{t:TypeId}(hu:prog.underlying t=some (.slice 89)){a9 n:Nat}{w:World}{v:Value}{xs:List Value}{us:Array Value}(ty:TypeId)(h:w.ownsRow a9 89 40 v n xs)(hus:us.size=40)(h1:us.all (·.oneCell')=true)(hn:n<=700000)(hb:a9<=w.heap.size) :
  ∃v' w',(Builtin.append_ #[t,t] ty #[v,.slice (some ⟨w,0,none⟩) 1 1]).run prog (w.alloc (.cells us 89))=.ok v' w' /\ w'.ownsRow a9 89 40 v' (n+1) (xs++us.toList) /\ Below a9 w w' /\ KeptB w w' v.ownBlock /\ (v'.ownBlock=v.ownBlock\/∃g,v'.ownBlock=some g /\ w.heap.size<=g):=by
 obtain⟨l,rfl⟩:∃l:List Value,us=l.toArray:=⟨us.toList,by simp⟩;exact yY hu py (by rfl) (by omega) (by omega) ty h (by simpa using hus) (λu hu=>by
  have:=Array.all_eq_true_iff_forall_mem.1 h1;exact this u (by simpa using hu)) hn hb
theorem Ar.setPost{a9 a M a8 a7:Nat}{w:World}{ns:List Nd}(h:Ar a9 a M a8 a7 w ns){j:Nat}(hj:4<=j)(u:Value):Ar a9 a M a8 a7 (w.setCell ⟨a,j,none⟩ u) ns:=by
 have hF:∀i,i≠a->(w.setCell ⟨a,j,none⟩ u).heap[i]?=w.heap[i]?:=λi hi=>Below.heap_setCell w ⟨a,j,none⟩ u i hi;obtain⟨g,cap,cs,t,hb,hc,hrow⟩:=h.blk;have hM:M≠a:=λe=>by
  obtain⟨num,⟨D,⟨es,clock,h1,_⟩,_⟩,_⟩:=h.map;rw[e,hb]at h1;cases h1
 have hb2:(w.setCell ⟨a,j,none⟩ u).heap[a]?=some (.cells (cs.setIfInBounds j u) t (0,0)):=Bz.set (W:=w) (k:=a) (j:=j) (c:=cs) (t:=t) hb u;refine⟨h.wf,h.le,h.vars1,h.vars16,h.most4,h.lowA,h.lowM,⟨g,cap,_,t,hb2,⟨?_,?_,?_,?_,hc.ty⟩,?_⟩,?_⟩
 ·rw[Array.getElem?_setIfInBounds_ne (by omega)];exact hc.c0
 ·rw[Array.getElem?_setIfInBounds_ne (by omega)];exact hc.c1
 ·rw[Array.getElem?_setIfInBounds_ne (by omega)];exact hc.c2
 ·rw[Array.getElem?_setIfInBounds_ne (by omega)];exact hc.c3
 ·refine⟨hrow.1,?_⟩;rcases hrow.2 with⟨hv,_⟩|⟨g',e9,cur,hv,hbase,hg,rest⟩
  ·cases hv
  ·simp only[Value.slice.injEq,Option.some.injEq,Addr.mk.injEq,and_true,true_and]at hv;obtain⟨rfl,rfl⟩:=hv;have hga:g≠a:=λe=>by
    rw[e,hb]at hg;simp only[Option.some.injEq,Obj.cells.injEq]at hg;have ht:=hg.2.1;rcases hc.ty with e2|e2 <;>(rw[e2]at ht;revert ht;decide)
   exact .inr ⟨g,cap,cur,rfl,hbase,(hF g hga).trans hg,rest⟩
 ·obtain⟨num,hm,hn⟩:=h.map;exact⟨num,hm.same (hF M hM),hn⟩
structure Nw(bR R MR a7:Nat)(w:World)(u0 u1:Value)(NB WB NN:Nat)(cw cn:Array Value)(sl:Value)(k:Nat)(xs:List Value)(ns:List Nd)(W:World):Prop where
 ar:Ar bR R MR 14 a7 W ns
 low:w.heap.size<=bR
 be:Below w w W
 c4:W.cell? ⟨R,4,none⟩=some sl
 row:W.ownsRow bR 89 40 sl k xs
 bN:Bz W NB #[u0,u1] 25
 bw:Bz W WB cw 89
 bn:Bz W NN cn 89
 lw:bR<=WB
 ln:bR<=NN
 d1:WB≠NN
 d2:sl.ownBlock≠some WB
 d3:sl.ownBlock≠some NN
section
variable {bR R MR a7:Nat}{w W W':World}{u0 u1 sl:Value}{NB WB NN k:Nat}{cw cn:Array Value}{xs:List Value}{ns ns':List Nd}
theorem Nw.size(h:Nw bR R MR a7 w u0 u1 NB WB NN cw cn sl k xs ns W):bR<=W.heap.size:=Nat.le_trans h.ar.lowA (Nat.le_of_lt h.ar.lta)
theorem Nw.below(h:Nw bR R MR a7 w u0 u1 NB WB NN cw cn sl k xs ns W)(hb:Below W W W'):Nw bR R MR a7 w u0 u1 NB WB NN cw cn sl k xs ns W' :=
 ⟨h.ar.below hb,h.low,h.be.trans (hb.mono h.be.size),(bJ (hb.block _ h.ar.lta)).trans h.c4,jD h.row (KeptB.of_below hb) (λg _=>by simp),(hb.block _ h.bN.lt).trans h.bN,(hb.block _ h.bw.lt).trans h.bw,(hb.block _ h.bn.lt).trans h.bn,h.lw,h.ln,h.d1,h.d2,h.d3⟩
theorem Nw.tf(h:Nw bR R MR a7 w u0 u1 NB WB NN cw cn sl k xs ns W)(K:Kp (ca bR R MR 14 a7) W W'){i:Nat}{c:Array Value}{t:TypeId}(hb:Bz W i c t)(ht:okT t):Bz W' i c t:=((h.ar.outBox hb ht.1 ht.2.1).kp K).blk
theorem Nw.step(h:Nw bR R MR a7 w u0 u1 NB WB NN cw cn sl k xs ns W)(A':Ar bR R MR 14 a7 W' ns')(K:Kp (ca bR R MR 14 a7) W W'):Nw bR R MR a7 w u0 u1 NB WB NN cw cn sl k xs ns' W':=by
 refine⟨A',h.low,h.be.trans ((h.ar.kp_below K).mono h.low),(K.post 4 (by omega)).trans h.c4,?_,h.tf K h.bN (by decide),h.tf K h.bw (by decide),h.tf K h.bn (by decide),h.lw,h.ln,h.d1,h.d2,h.d3⟩;refine⟨h.row.1,?_⟩;rcases h.row.2 with e|⟨g,cap,cur,h1,h2,h3,h4⟩
 ·exact Or.inl e
 ·exact Or.inr ⟨g,cap,cur,h1,h2,h.tf K (t:=89) h3 (by decide),h4⟩
theorem Nw.app{v':Value}{W1:World}(h:Nw bR R MR a7 w u0 u1 NB WB NN cw cn sl k xs ns W)(hr:W1.ownsRow bR 89 40 v' (k+1) (xs++cn.toList))(hb:Below bR W W1)(hk:KeptB W W1 sl.ownBlock)(hv:v'.ownBlock=sl.ownBlock\/∃g,v'.ownBlock=some g /\ W.heap.size<=g) :
  Nw bR R MR a7 w u0 u1 NB WB NN cw cn v' (k+1) (xs++cn.toList) ns (W1.setCell ⟨R,4,none⟩ v'):=by
 have nt:∀{i:Nat} {c:Array Value} {t:TypeId},W.heap[i]?=some (.cells c t (0,0))->t≠89->some i≠sl.ownBlock:=λ{i c t} hi ht e=>by
  obtain⟨_,_,cur,hc⟩:=jC h.row e.symm;rw[hi]at hc;simp only[Option.some.injEq,Obj.cells.injEq]at hc;exact ht hc.2.1
 obtain⟨g0,cap0,cs0,t0,hR,hC,hrow0⟩:=h.ar.blk;have nR:some R≠sl.ownBlock:=nt hR (by rcases hC.ty with e|e <;>(rw[e];decide));have nM:some MR≠sl.ownBlock:=λe=>by
  obtain⟨_,_,cur,hc⟩:=jC h.row e.symm;obtain⟨num,⟨D,⟨es,clock,h1,_⟩,_⟩,_⟩:=h.ar.map;rw[h1]at hc;cases hc
 obtain⟨cur,hcur,_,rl⟩:=h.ar.row;have nr:some (rowOf W R)≠sl.ownBlock:=nt hcur (by decide);have A1:Ar bR R MR 14 a7 W1 ns:=h.ar.same (hk.block _ h.ar.lta nR) (hk.block _ h.ar.ltM nM) (hk.block _ rl nr);have hF:∀i,i≠R->(W1.setCell ⟨R,4,none⟩ v').heap[i]?=W1.heap[i]?:=λi hi=>Below.heap_setCell W1 ⟨R,4,none⟩ v' i hi;have bx:∀{i:Nat} {c:Array Value} {t:TypeId},Bz W i c t->some i≠sl.ownBlock->t≠85 /\ t≠82->Bz (W1.setCell ⟨R,4,none⟩ v') i c t:=λ{i c t} hi hn ht=>by
  have hne:i≠R:=λe=>by
   unfold Bz at hi;rw[e,hR]at hi;simp only[Option.some.injEq,Obj.cells.injEq]at hi;rcases hC.ty with e2|e2
   ·exact ht.2 (by rw[<- hi.2.1,e2])
   ·exact ht.1 (by rw[<- hi.2.1,e2])
  exact(hF i hne).trans ((hk.block i hi.lt hn).trans hi)
 have hvn:∀x,x<W.heap.size->some x≠sl.ownBlock->v'.ownBlock≠some x:=λx hx hn=>by
  rcases hv with e|⟨g,e,hg⟩
  ·rw[e];exact λe=>hn e.symm
  ·rw[e];intro e2;have:=Option.some.inj e2;omega
 have be1:Below w w (W1.setCell ⟨R,4,none⟩ v'):=by
  have b1:=h.be.trans (hb.mono h.low);have lR:=h.ar.lowA;have lo:=h.low;exact⟨b1.os,b1.tape,b1.output,by simp[World.setCell];exact b1.size,λi hi=>(hF i (by omega)).trans (b1.block i hi)⟩
 refine⟨A1.setPost (by omega) v',h.low,be1,?_,?_,bx h.bN (nt h.bN (by decide)) (by decide),bx h.bw (λe=>h.d2 e.symm) (by decide),bx h.bn (λe=>h.d3 e.symm) (by decide),h.lw,h.ln,h.d1,hvn _ h.bw.lt (λe=>h.d2 e.symm),hvn _ h.bn.lt (λe=>h.d3 e.symm)⟩
 ·have hc5:4<cs0.size:=by
   have:=h.c4;rw[cell_of_row W R 4 _ _ _ hR]at this;exact(Array.getElem?_eq_some_iff.1 this).1
  have h1:Bz W1 R cs0 t0:=(hk.block _ h.ar.lta nR).trans hR;have h2:=h1.set (j:=4) v';exact h2.cell 4 _ (by simp[hc5])
 ·exact jD hr (yX W1 R 4 v') (λg hg e=>by
   obtain⟨_,_,cur,hc⟩:=jC hr hg;obtain rfl:=Option.some.inj e;rw[hk.block _ h.ar.lta nR,hR]at hc;simp only[Option.some.injEq,Obj.cells.injEq]at hc;have ht:=hc.2.1;rcases hC.ty with e2|e2 <;>(rw[e2]at ht;revert ht;decide))
theorem Nw.turn{cx:Array Value}(h:Nw bR R MR a7 w u0 u1 NB WB NN cw cn sl k xs ns W):Nw bR R MR a7 w u0 u1 NB WB NN cn cx sl k xs ns ((W.setRow WB cn).setRow NN cx):=by
 have hA:∀i,(W.setRow WB cn).heap[i]?=if WB=i then some (.cells cn 89 (0,0))else W.heap[i]?:=setRow_heap' W WB cw cn _ h.bw
 have bn1:Bz (W.setRow WB cn) NN cn 89:=by
  show _=_;rw[hA,if_neg h.d1];exact h.bn
 have hB:=setRow_heap' (W.setRow WB cn) NN cn cx _ bn1;have hF:∀i,i≠WB->i≠NN->((W.setRow WB cn).setRow NN cx).heap[i]?=W.heap[i]?:=λi h1 h2=>by rw[hB,if_neg (λe=>h2 e.symm),hA,if_neg (λe=>h1 e.symm)]
 have out:∀{i:Nat} {c:Array Value},Bz W i c 89->R≠i /\ MR≠i /\ rowOf W R≠i /\ NB≠i:=λ{i c} hi=>by
  have L:=(h.ar.outBox hi (by decide) (by decide)).out;refine⟨λe=>L.not (Or.inl e.symm),λe=>L.not (Or.inr (Or.inr (Or.inl e.symm))),λe=>L.ne e.symm,λe=>?_⟩;have hn:=h.bN;unfold Bz at hn hi;rw[e,hi]at hn;simp only[Option.some.injEq,Obj.cells.injEq]at hn;exact absurd hn.2.1 (by decide)
 obtain⟨a1,a2,a3,a4⟩:=out h.bw;obtain⟨b1,b2,b3,b4⟩:=out h.bn;have lo:=h.low;have l1:=h.lw;have l2:=h.ln;refine⟨h.ar.same (hF _ a1 b1) (hF _ a2 b2) (hF _ a3 b3),h.low,⟨h.be.os,h.be.tape,h.be.output,by simp[World.setRow];exact h.be.size,λi hi=>(hF i (by omega) (by omega)).trans (h.be.block i hi)⟩,(bJ (hF _ a1 b1)).trans h.c4,?_,(hF _ a4 b4).trans h.bN,?_,?_,h.lw,h.ln,h.d1,h.d2,h.d3⟩
 ·refine⟨h.row.1,?_⟩;rcases h.row.2 with e|⟨g,cap,cur,h1,h2,h3,h4⟩
  ·exact Or.inl e
  ·refine Or.inr ⟨g,cap,cur,h1,h2,(hF g (λe=>h.d2 ?_) (λe=>h.d3 ?_)).trans h3,h4⟩
   ·rw[h1,<- e];rfl
   ·rw[h1,<- e];rfl
 ·show _=_;rw[hB,if_neg (λe=>h.d1 e.symm),hA,if_pos rfl]
 ·show _=_;rw[hB,if_pos rfl]
end
theorem lr{d n:Nat}{e:TypeId}{xs ys:Array Value}{b:Nat->Bool}{W:World}:∀(is:List Nat),(∀j∈is,∃x y,(part e xs (j*n)).run prog W=.ok x W /\ (part e ys (j*n)).run prog W=.ok y W /\ (Op.equalIn d e x y).run prog W=.ok (b j) W)->(Op.eqItems d e n xs ys is).run prog W=.ok (is.all b) W
 | [],_=>by simp[Op.eqItems]
 | j::is,h=>by
   obtain⟨x,y,p1,p2,p3⟩:=h j List.mem_cons_self;have ih:=lr is λi hi=>h i (List.mem_cons_of_mem _ hi);simp only[Op.eqItems,Sem.run_bind,p1,p2,p3,Result.andThen_ok];cases hb:b j
   ·simp[hb]
   ·simp[hb,ih]
theorem pE(xs:Array Value)(off:Nat)(W:World):(part 87 xs off).run prog W=.ok (.agg (xs.extract off (off+4))) W:=by
 obtain⟨i,hi⟩:∃i,prog.info? 87=some i:=by
  have h:(prog.info? 87).isSome=true:=by kernel_rfl
  exact Option.isSome_iff_exists.1 h
 have nI:prog.cellsOf 87=4:=by kernel_rfl
 simp only[part,isAgg,Sem.run_bind,run_underlying underlying87,Result.andThen_ok,Sem.run_pure,if_true,run_sizeOf W hi,nI]
open Classical in
theorem ze{cx cn:Array Value}{sx sn:Nat->Nat->Nat}(h1:SetsV cx sx)(h2:SetsV cn sn)(W:World):∃r:Bool,(binOp .eql 89 (.agg cx) (.agg cn)).run prog W=.ok (.bool r) W /\ (r=true ↔ ∀a b,a<10->b<4->sx a b=sn a b):=by
 obtain⟨i,hi⟩:∃i,prog.info? 87=some i:=by
  have h:(prog.info? 87).isSome=true:=by kernel_rfl
  exact Option.isSome_iff_exists.1 h
 obtain⟨i2,hi2⟩:∃i,prog.info? 3=some i:=by
  have h:(prog.info? 3).isSome=true:=by kernel_rfl
  exact Option.isSome_iff_exists.1 h
 have nI:prog.cellsOf 3=1:=by kernel_rfl
 have plainI:prog.plainKey 3=true:=by kernel_rfl
 have nP:prog.cellsOf 87=4:=by kernel_rfl
 refine⟨(List.range 10).all λa=>(List.range 4).all λb=>decide (sx a b=sn a b),?_,?_⟩
 ·rw[run_eql_struct,show(10000:Nat)=9998+1+1 from rfl,run_equalIn_array W (9998+1) _ _ underlying89 hi,nP,lr (b:=λa=>(List.range 4).all λb=>decide (sx a b=sn a b)) (List.range 10) λa ha=>?_]
  ·rfl
  have ha:=List.mem_range.1 ha;refine⟨_,_,pE cx (a*4) W,pE cn (a*4) W,?_⟩;rw[run_equalIn_array W 9998 _ _ underlying87 hi2,nI];refine lr _ λb hb=>?_;have hb:=List.mem_range.1 hb;have g:∀{c:Array Value} {s:Nat->Nat->Nat},SetsV c s->(c.extract (a*4) (a*4+4))[b*1]?=some (.int .i64 (s a b:Int)):=λ{c s} h=>by
   have e:=h.2 a b ha hb;have hs:=h.1;rw[Array.getElem?_extract,Nat.mul_one,if_pos (by omega),e]
  refine⟨_,_,run_part_plain W plainI (g h1),run_part_plain W plainI (g h2),?_⟩;have q:∀(x y:Int),(Op.equalIn 9998 3 (.int .i64 x) (.int .i64 y)).run prog W=.ok (x == y) W:=λx y=>run_equalIn_int W 9997 3 .i64 .i64 x y underlying3;have hq:((sx a b:Int) ==(sn a b:Int))=decide (sx a b=sn a b):=by
   rw[Bool.eq_iff_iff,beq_iff_eq,decide_eq_true_eq];omega
  exact(q _ _).trans (by rw[hq])
 ·simp only[List.all_eq_true,List.mem_range,decide_eq_true_eq];exact⟨λh a b ha hb=>h a ha b hb,λh a ha b hb=>h a b ha hb⟩
def Hist(ds:List Dv)(ls:List Lk)(n:Nat)(xs:List Value)(ns:List Nd):Prop :=
 ∃s:Nat->Nat->Nat->Nat,∀j a b,j<n->a<10->b<4->xs[j*40+(a*4+b)]?=some (.int .i64 (s j a b:Int)) /\ s j a b<ns.length /\ ev ns (s j a b)=ak ds ls j a b
section
variable {ds:List Dv}{ls:List Lk}{k:Nat}{xs:List Value}{ns ns':List Nd}{cn:Array Value}{sw sn:Nat->Nat->Nat}
theorem Hist.ext(h:Hist ds ls k xs ns)(hW:Wf 14 ns)(hW':Wf 14 ns')(X:Ext ns ns'):Hist ds ls k xs ns':=by
 obtain⟨s,hs⟩:=h;have hlen:=X.len;refine⟨s,λj a b hj ha hb=>?_⟩;obtain⟨h1,h2,h3⟩:=hs j a b hj ha hb;refine⟨h1,by omega,?_⟩;rw[<- h3];exact funext (X.ev hW hW' _ h2)
theorem Hist.app(h:Hist ds ls k xs ns)(hl:xs.length=k*40)(N:NInv ds ls k ns sw sn)(hc:SetsV cn sn):Hist ds ls (k+1) (xs++cn.toList) ns:=by
 obtain⟨s,hs⟩:=h;refine⟨λj=>if j=k then sn else s j,λj a b hj ha hb=>?_⟩;by_cases e:j=k
 ·dsimp only;rw[if_pos e];refine⟨?_,N.ltn a b ha hb,by rw[N.fn a b ha hb,e]⟩;rw[List.getElem?_append_right (by omega),show j*40+(a*4+b)-xs.length=a*4+b by omega,Array.getElem?_toList];exact hc.2 a b ha hb
 ·dsimp only;rw[if_neg e];obtain⟨h1,h2,h3⟩:=hs j a b (by omega) ha hb;refine⟨?_,h2,h3⟩;rw[List.getElem?_append_left (by omega)];exact h1
theorem pF(h:∀j,j<k->aV ds ls j<aV ds ls (j+1)):k<=aV ds ls k:=by
 induction k with
 | zero=>omega
 | succ n ih =>
   have h1:=ih λj hj=>h j (by omega);have h2:=h n (by omega);omega
end
def dS(ds:List Dv)(ls:List Lk)(a7 gW:Nat)(E:Prop):Prop :=
 ∃k,(∀j,j<k->aV ds ls j<aV ds ls (j+1)) /\ (E\/a7<=2+44*ds.length+gW*(4*ds.length)*(k+1))
def RNewOut(ds:List Dv)(ls:List Lk)(a7:Nat)(EE:Prop)(w:World)(e:Ending)(w':World):Prop :=
 Below w w w' /\ ((∃(bR R MR K:Nat) (sl:Value) (xs:List Value) (ns:List Nd),e=.returned (.tuple #[.pointer R,.int .i64 0]) /\ w.heap.size<=bR /\ Ar bR R MR 14 a7 w' ns /\ w'.cell? ⟨R,4,none⟩=some sl /\ w'.ownsRow bR 89 40 sl (K+1) xs /\ Hist ds ls (K+1) xs ns /\ (∀j,j<K->aV ds ls j<aV ds ls (j+1)) /\ (∀a b,a<10->b<4->ak ds ls (K+1) a b=ak ds ls K a b)) \/
  (e=.returned (.tuple #[.pointer none,.int .i64 6]) /\ EE))
theorem pG{P:Program}{w:World}{ops:Array Oper}{o:Oper}{a:Act}{K:Act->World->Prop}{Q:Exit->Act->World->Prop}{E:Prop}(hgd:o.guard=none)(s x:Operand)(t:TypeId)
  (ho:o.op=.call { callee:=.builtin .append,args:=#[s,x],argTypes:=#[t,t] }) (v u v':Value) (w':World) (hs:a.eval s=v) (hx:a.eval x=u)
  (hr:(Builtin.append_ #[t,t] o.type #[v,u]).run P w=.ok v' w') (h:K (a.put o.dst v') w') :
  if Region.wanted o (yielded ops a.tmps)=true then Oper.wp P o a w K Q else E:=by
 have hw:Region.wanted o (yielded ops a.tmps)=true:=by simp[Region.wanted,hgd]
 rw[if_pos hw];unfold Oper.wp execOp;simp only[ho,resolve,invoke,builtin,Sem.run_bind,Sem.run_pure,Result.andThen_ok,List.map_toArray,List.map_cons,List.map_nil,hs,hx,hr];exact h
theorem zf:∃ie,prog.info? 89=some ie /\ ie.zero=some (.agg zeros40) /\ ie.size=40:=by
 obtain⟨ie,h1,h2,h3,_⟩:=info_parts py;exact⟨ie,h1,h2,h3⟩
theorem pH{o:Oper}{a:Act}{w:World}{K:Act->World->Prop}{Q:Exit->Act->World->Prop}(x:Operand)(ho:o.op=.buildSlice 83 1 #[(0,x)])(cn:Array Value)(hx:a.eval x=.agg cn)(h:cn.size=40)(_h1:cn.all (·.oneCell')=true)
  (hk:K (a.put o.dst (.slice (some ⟨w,0,none⟩) 1 1)) (w.alloc (.cells cn 89))):o.wp prog a w K Q:=by
 obtain⟨ie,hie,hz0,hs0⟩:=zf;refine wp_buildSlice 83 89 1 _ ho cn ie (.agg zeros40) underlying83 hie hz0 (by rw[hs0];decide) (by rw[hs0];decide) ?_ hk;have e:(#[(0,x)].map λ(p:Nat × Operand)=>match p with|(i,x)=>(i,a.eval x)).toList=(([Value.agg cn]:List Value).zipIdx 0).map λx=>(x.2,x.1):=by simp[hx]
 rw[hs0];refine(congrArg _ e).trans ?_;rw[Great.fill_whole (by omega) [Value.agg cn] _ (λv hv=>by obtain rfl:=List.mem_singleton.1 hv;exact h) (by simp)];simp[Value.cells]
theorem zh{c:Array Value}{s:Nat->Nat->Nat}(h:SetsV c s):c.all (·.oneCell')=true:=by
 rw[Array.all_eq_true_iff_forall_mem];intro x hx;obtain⟨n,hn,rfl⟩:=Array.mem_iff_getElem.1 hx;have hs:=h.1;have h2:=h.2 (n / 4) (n % 4) (by omega) (by omega);rw[show n / 4*4+n % 4=n by omega]at h2;rw[(Array.getElem?_eq_some_iff.1 h2).2];rfl
theorem zi{t:TypeId}{c d:Array Value}{W:World}{r:Bool}(h:(binOp .eql t (.agg c) (.agg d)).run prog W=.ok (.bool r) W):(Op.equalIn 10000 t (.agg c) (.agg d)).run prog W=.ok r W:=by
 rw[run_eql_struct]at h;generalize (Op.equalIn 10000 t (.agg c) (.agg d)).run prog W=z at h;cases z with
 | ok b w' =>
   simp at h;obtain⟨rfl,rfl⟩:=h;rfl
 | halt x w'=>simp at h
def gj(W:World)(R:Nat):Nat:=match W.cell? ⟨R,4,none⟩with
 | some (.slice _ n _)=>n
 | _=>0
theorem Nw.len{bR R MR a7:Nat}{w W:World}{u0 u1 sl:Value}{NB WB NN k:Nat}{cw cn:Array Value}{xs:List Value}{ns:List Nd}(h:Nw bR R MR a7 w u0 u1 NB WB NN cw cn sl k xs ns W):gj W R=k:=by
 unfold gj;rw[h.c4];rcases h.row.2 with⟨rfl,rfl⟩|⟨g,cap,cur,rfl,_⟩ <;> rfl
def lu(ds:List Dv)(ls:List Lk)(EE:Prop)(G:Nat)(er:Int)(k:Nat)(cw cn:Array Value)(xs:List Value)(ns:List Nd):Prop :=
 (cn.size=40 /\ cn.all (·.oneCell')=true) /\ (cw.size=40 /\ cw.all (·.oneCell')=true) /\ (Hist ds ls k xs ns /\ ns.length<=2+44*ds.length+G*k) /\ ((er=0 /\ (∀j,j<k->aV ds ls j<aV ds ls (j+1)) /\ ∃sw sn,SetsV cw sw /\ SetsV cn sn /\ NInv ds ls k ns sw sn)\/(er=6 /\ EE))
section
variable {w:World}
theorem pI(A B:Option Addr)(cap e9:Nat)(ds:List Dv)(ls:List Lk)(a7:Nat)(hm2:2<=a7)(hm4:a7<=40000)(hz:Hid (netV ds ls=0))(hdv:Hid (∀d∈ds,aE d=0))(hD:Hid (Devs w w (.slice A ds.length cap) ds))(hL:Hid (Links w w (.slice B ls.length e9) ls))(gW:Nat)(E:Prop)(HWB:Hid (∀k,(∀j,j<k->aV ds ls j<aV ds ls (j+1))->∀(i q a b:Nat) (d:Dv),ds[i]?=some d->a<10->b<4->peerF ls i q=some ((a:Int),(b:Int))->gV gW E d (q:Int) (ak ds ls k a b) (ak ds ls k i 0) (ak ds ls k i 1) (ak ds ls k i 2) (ak ds ls k i 3))) :
  Cl 7 #[.agg #[.slice A ds.length cap,.slice B ls.length e9],(a7:Int)] w (RNewOut ds ls a7 (dS ds ls a7 gW E) w):=by
 have D1:Below w w (w.alloc (.cells #[.slice A ds.length cap,.slice B ls.length e9] 25)):=(Below.refl _ w).alloc (Nat.le_refl _) _;have CK:Hid (Cl 25 #[.agg #[.slice A ds.length cap,.slice B ls.length e9]] (w.alloc (.cells #[.slice A ds.length cap,.slice B ls.length e9] 25)) λe w'=>e=.returned (.int .i64 0) /\ Hid (Below w w w' /\ Bz w' w.heap.size #[.slice A ds.length cap,.slice B ls.length e9] 25)):=(kH _ _ ds ls _ ((hD.out.below D1).mono D1.size) ((hL.out.below D1).mono D1.size)).mono λe w' h=>⟨by rw[h.1,hz.out],⟨D1.trans (h.2.mono D1.size),(h.2.block _ (Bz.new w _ _ _ rfl).lt).trans (Bz.new w _ _ _ rfl)⟩⟩;have BN:Hid (∀W:World,Cl 26 #[.int .i64 14,(a7:Int)] W λe w'=>∃a M,e=.returned (.tuple #[.pointer (some ⟨a,0,none⟩),.int .i64 0]) /\ Hid (Ar W.heap.size a M 14 a7 w' [(14,0,0),(14,1,1)] /\ Below W W w')):=λW=>(iP (v:=14) (m:=a7) W (by omega) (by omega) hm2 hm4).mono λe w' ⟨a,M,h1,h2,h3⟩=>⟨a,M,h1,h2,h3⟩;clear D1;go_enter func7,ntmps7;go_wp2_with fail;with_reducible refine CK.out.mono ?_
 rintro e w1⟨rfl,H1⟩;clear CK;go_wp2_with fail;with_reducible refine(BN.out _).mono ?_
 rintro e w2⟨a,M,rfl,H2⟩;clear BN;obtain⟨g,cap0,a0,a1,a2,a3,CP⟩:=H2.out.1.copied;have BL2:Hid (Below w w w2):=H1.out.1.trans (H2.out.2.mono H1.out.1.size);have BN2:Hid (Bz w2 w.heap.size #[.slice A ds.length cap,.slice B ls.length e9] 25):=(H2.out.2.block _ H1.out.2.lt).trans H1.out.2;have A3:Hid (Ar w1.heap.size w2.heap.size M 14 a7 (w2.alloc (.cells #[.int .i64 14,(a7:Int),.slice g 2 cap0,.map (some M),.slice none 0 0] 85)) [(14,0,0),(14,1,1)]):=CP w2 (Below.refl _ _);have A4:Hid (Ar w1.heap.size w2.heap.size M 14 a7 ((w2.alloc (.cells #[.int .i64 14,(a7:Int),.slice g 2 cap0,.map (some M),.slice none 0 0] 85)).alloc (.cells zeros40 89)) [(14,0,0),(14,1,1)]):=A3.out.below ((Below.refl _ _).alloc (Nat.le_refl _) _);have B4:Hid (Below w w ((w2.alloc (.cells #[.int .i64 14,(a7:Int),.slice g 2 cap0,.map (some M),.slice none 0 0] 85)).alloc (.cells zeros40 89))):=(BL2.out.alloc BL2.out.size _).alloc (Nat.le_trans BL2.out.size (by simp)) _;have N4:Hid (Bz ((w2.alloc (.cells #[.int .i64 14,(a7:Int),.slice g 2 cap0,.map (some M),.slice none 0 0] 85)).alloc (.cells zeros40 89)) w.heap.size #[.slice A ds.length cap,.slice B ls.length e9] 25):=(BN2.out.al _).al _;have n0:((w2.alloc (.cells #[.int .i64 14,(a7:Int),.slice g 2 cap0,.map (some M),.slice none 0 0] 85)).alloc (.cells zeros40 89)).cell? ⟨w,0,none⟩=some (.slice A ds.length cap):=N4.out.cell 0 _ rfl;have n1:((w2.alloc (.cells #[.int .i64 14,(a7:Int),.slice g 2 cap0,.map (some M),.slice none 0 0] 85)).alloc (.cells zeros40 89)).cell? ⟨w,1,none⟩=some (.slice B ls.length e9):=N4.out.cell 1 _ rfl;have LO:Hid (w.heap.size<=w1.heap.size):=H1.out.1.size;have SW:Hid (Cl 27 #[.pointer (some ⟨w2,0,none⟩),.agg #[.slice A ds.length cap,.slice B ls.length e9]] ((w2.alloc (.cells #[.int .i64 14,(a7:Int),.slice g 2 cap0,.map (some M),.slice none 0 0] 85)).alloc (.cells zeros40 89)) λe w'=>∃(cx:Array Value) (er:Int) (ns:List Nd),e=.returned (.tuple #[.agg cx,er]) /\ Hid (cx.size=40 /\ cx.all (·.oneCell')=true) /\ Hid (Nw w1.heap.size w2.heap.size M a7 w (.slice A ds.length cap) (.slice B ls.length e9) w.heap.size (w2.heap.size+1) w'.heap.size zeros40 cx (.slice none 0 0) 0 [] ns (w'.alloc (.cells cx 89))) /\ Hid ((er=0 /\ ∃sx,SetsV cx sx /\ HInv ds ls ds.length ns sx)\/(er=6 /\ cx=zeros40 /\ a7<=2+44*ds.length)) /\ Hid (ns.length<=2+44*ds.length)):=by
  refine(uI A4.out A B cap e9 ds ls hz hdv ((hD.out.below B4.out).mono LO.out) ((hL.out.below B4.out).mono LO.out)).mono λe w' h=>?_;obtain⟨cx,er,ns,e1,e2,e3,e4,e5,e6,e6',e7⟩:=h;refine⟨cx,er,ns,e1,e2,?_,e7,e6'⟩;have c4:((w2.alloc (.cells #[.int .i64 14,(a7:Int),.slice g 2 cap0,.map (some M),.slice none 0 0] 85)).alloc (.cells zeros40 89)).cell? ⟨w2,4,none⟩=some (.slice none 0 0):=by
   have z:Bz ((w2.alloc (.cells #[.int .i64 14,(a7:Int),.slice g 2 cap0,.map (some M),.slice none 0 0] 85)).alloc (.cells zeros40 89)) w2.heap.size #[.int .i64 14,(a7:Int),.slice g 2 cap0,.map (some M),.slice none 0 0] 85:=(Bz.new w2 _ _ _ rfl).al _;exact z.cell 4 _ rfl
  have zb:Bz ((w2.alloc (.cells #[.int .i64 14,(a7:Int),.slice g 2 cap0,.map (some M),.slice none 0 0] 85)).alloc (.cells zeros40 89)) (w2.heap.size+1) zeros40 89:=Bz.new (w2.alloc (.cells #[.int .i64 14,(a7:Int),.slice g 2 cap0,.map (some M),.slice none 0 0] 85)) _ _ _ (by simp);have zw:=e6 _ _ _ zb (by decide);have zn:=e6 _ _ _ N4.out (by decide);have la:=e3.lta;have lA:=e3.lowA;have l2:=H2.out.2.size;have hbl:Below w w w':=B4.out.trans ((A4.out.kp_below e4).mono LO.out);exact⟨e3.alloc _,LO.out,hbl.alloc hbl.size _,(bJ (Below.heap_alloc w' _ _ la)).trans ((e4.post 4 (by omega)).trans c4),⟨rfl,Or.inl ⟨rfl,rfl⟩⟩,zn.al _,zw.al _,Bz.new w' _ _ _ rfl,by omega,by omega,λe=>(by have:=zw.lt;omega),(by simp[Value.ownBlock]),(by simp[Value.ownBlock])⟩
 clear A3 A4 B4 N4 CP H1 H2 BL2 BN2;go_upto_region 9 with fail;go_wp2_with fail;with_reducible refine SW.out.mono ?_
 rintro e w4⟨cx,er,ns,rfl,HC,NW4,HV,HLN⟩;have ZA:Hid (∀W:World,(W.alloc (.cells zeros40 89)).heap[W.heap.size]?=some (.cells zeros40 89 (0,0))):=λW=>Go.heap_alloc_new W _;have HN:Hid ((prog.info? 89).map (·.size)=some cx.size):=fw HC.out.1;have HZ:Hid (zeros40.size=cx.size):=by show _=_;rw[HC.out.1];rfl
 clear n0 n1 a0 a1 a2 a3 SW;dsimp only
 iterate 14 go_step
 refine wp_store_row 89 _ _ rfl _ cx rfl rfl _ _ (ZA.out w4) HN.out HZ.out HC.out.2 ?_;rw[World.setRow_alloc_new];simp only[Act.put];clear ZA HZ HN;obtain⟨V,hV⟩:∃V:Array Value->Array Value->Value->Nat->List Value->List Nd->World->Prop,V=λcw cn sl k xs ns W=>Nw w1.heap.size w2.heap.size M a7 w (.slice A ds.length cap) (.slice B ls.length e9) w.heap.size (w2.heap.size+1) w4.heap.size cw cn sl k xs ns W:=⟨_,rfl⟩;have V5:V zeros40 cx (.slice none 0 0) 0 [] ns (w4.alloc (.cells cx 89)):=by rw[hV];exact NW4.out
 have K5:Hid (lu ds ls (dS ds ls a7 gW E) (gW*(4*ds.length)) er 0 zeros40 cx [] ns):=by
  refine⟨HC.out,⟨rfl,zeros_one⟩,⟨⟨λ_ _ _=>0,λj _ _ hj=>by omega⟩,Nat.le_trans HLN.out (Nat.le_add_right _ _)⟩,?_⟩;rcases HV.out with⟨rfl,sx,q1,q2⟩|⟨rfl,_,hm6⟩
  ·exact Or.inl ⟨rfl,λj hj=>by omega,_,sx,nA,q1,yR q2 NW4.out.ar.wf⟩
  ·exact Or.inr ⟨rfl,0,λj hj=>by omega,Or.inr (Nat.le_trans hm6 (Nat.le_add_right _ _))⟩
 clear NW4 HC HV HLN;generalize w4.alloc (.cells cx 89)=W5 at *;go_wp2_with fail;go_loopw[8] (λe wr=>∃(er:Int) (k:Nat) (cw cn:Array Value) (sl:Value) (xs:List Value) (ns:List Nd),e=.int .i64 er /\ V cw cn sl k xs ns wr /\ Hid (lu ds ls (dS ds ls a7 gW E) (gW*(4*ds.length)) er k cw cn xs ns)) (λ_ wr=>700000-gj wr w2.heap.size)
 case atStart=>exact⟨er,0,zeros40,cx,_,[],ns,rfl,V5,K5⟩
 case round =>
  clear V5 K5;obtain⟨er,k,cw,cn,sl,xs,ns,rfl,V1,K1⟩:=hrel;by_cases he:er=0
  rotate_left
  ·have HE:Hid (er=6 /\ dS ds ls a7 gW E):=by
    rcases K1.out.2.2.2 with⟨h,_⟩|h
    ·exact absurd h he
    ·exact h
   have HEE:Hid (dS ds ls a7 gW E):=HE.out.2;obtain rfl:=HE.out.1;have FF:Hid (RNewOut ds ls a7 (dS ds ls a7 gW E) w (.returned (.tuple #[.pointer none,.int .i64 6])) wr):=by
    rw[hV]at V1;exact⟨V1.be,Or.inr ⟨rfl,HEE.out⟩⟩
   clear V1 K1 hV HE he HEE;go_wp2_with fail;go_ret2;exact FF.out
  subst he;go_wp2_with fail;have N1:Hid (Nw w1.heap.size w2.heap.size M a7 w (.slice A ds.length cap) (.slice B ls.length e9) w.heap.size (w2.heap.size+1) w4.heap.size cw cn sl k xs ns wr):=by rw[hV]at V1;exact V1
  have GR:Hid (∀j,j<k->aV ds ls j<aV ds ls (j+1)):=by
   rcases K1.out.2.2.2 with⟨_,h,_⟩|⟨h,_⟩
   ·exact h
   ·cases h
  have hkk:Hid (k<=655360):=Nat.le_trans (pF GR.out) (pu k);have LW1:Hid (gj wr w2.heap.size=k):=N1.out.len;have HLL:Hid (xs.length=k*40):=N1.out.row.1;have BD:Hid (Below wr wr wr.drew):=(Below.refl _ _).drew;obtain⟨v7,w7,r7,o7,b7,k7,x7⟩:=yZ (t:=83) (w:=wr.drew) (us:=cn) underlying83 83 N1.out.row K1.out.1.1 K1.out.1.2 (by have:=hkk.out;omega) N1.out.size;obtain⟨A7,n7,c7,hv7⟩:∃A n c,v7=.slice A n c:=by
   rcases o7.2 with⟨h,_⟩|⟨g,cap,cur,h,_⟩
   ·exact⟨_,_,_,h⟩
   ·exact⟨_,_,_,h⟩
  subst hv7;have V7:Hid (V cw cn (.slice A7 n7 c7) (k+1) (xs++cn.toList) ns (w7.setCell ⟨w2,4,none⟩ (.slice A7 n7 c7))):=by rw[hV];exact(N1.out.below BD.out).app o7 b7 k7 x7
  have c4:wr.drew.cell? ⟨w2,4,none⟩=some sl:=N1.out.c4;have c4a:(wr.drew.alloc (.cells cn 89)).cell? ⟨w2,4,none⟩=some sl:=(bJ (Below.heap_alloc _ _ _ N1.out.ar.lta)).trans N1.out.c4;have c4b:(wr.alloc (.cells cn 89)).cell? ⟨w2,4,none⟩=some sl:=c4a;have nR:Hid (some w2.heap.size≠sl.ownBlock):=λe=>by
   obtain⟨_,_,cur,hc⟩:=jC N1.out.row e.symm;obtain⟨g0,cap0,cs0,t0,hR,hC,_⟩:=N1.out.ar.blk;rw[hR]at hc;simp only[Option.some.injEq,Obj.cells.injEq]at hc;have ht:=hc.2.1;rcases hC.ty with e2|e2 <;>(rw[e2]at ht;revert ht;decide)
  have e7:w7.heap[w2.heap.size]?=wr.heap[w2.heap.size]?:=k7.block _ N1.out.ar.lta nR.out;have c47:w7.cell? ⟨w2,4,none⟩=some sl:=(bJ e7).trans N1.out.c4;have f47:w7.frozen? ⟨w2,4,none⟩=false:=by
   obtain⟨g0,cap0,cs0,t0,hR,hC,_⟩:=N1.out.ar.blk;simp[World.frozen?,e7,hR]
  have z0:Hid (Bz wr.drew w4.heap.size cn 89):=N1.out.bn;have z1:Hid (Bz (wr.drew.alloc (.cells cn 89)) w4.heap.size cn 89):=z0.out.al _;have z7:Hid (Bz w7 w4.heap.size cn 89):=(k7.block _ N1.out.bn.lt (λe=>N1.out.d3 e.symm)).trans N1.out.bn;have z8:Hid (Bz (w7.setCell ⟨w2,4,none⟩ (.slice A7 n7 c7)) w4.heap.size cn 89):=by
   have h:=V7.out;rw[hV]at h;exact h.bn
  have hcn:cn.size=40:=K1.out.1.1;have h1c:=K1.out.1.2;clear o7 b7 k7 x7 e7 nR BD;go_cut [44]from 38 to 68 (λv44 wx=>∃sl',V cw cn sl' (k+1) (xs++cn.toList) ns wx)
  case first =>
   refine wp_region_held_drew (S:=λW=>Bz W w4.heap.size cn 89) (by kernel_rfl) z0.out (λhHeld=>?_);refine tk 0 ?_;try simp only[ly]
   refine tk 1 ?_;try simp only[ly]
   refine tk 2 ?_;try simp only[ly]
   refine tk 3 ?_;try simp only[ly]
   refine' wpAnyH_take (i:=5) (v:=.agg cn) rfl (by kernel_rfl) (by kernel_rfl) (by kernel_rfl) (λ_ _ _ h=>h) (yieldsIf_load_mid (by rfl) 89 _ rfl w4.heap.size 0 rfl cn.toList _ (λW hS j v hj=>by rw[Nat.zero_add];exact Bz.cell hS j v (by simpa using hj)) bQ rfl (by rw[Array.length_toList,hcn];exact db)) ‹_› ?gr5;try simp only[ly]
   refine wpAnyH_ready (rs:=[4,6]) (by kernel_rfl) (by simp) ?_;refine AllReadyH.cons rfl (λK hK=>?_) ?_
   ·go_simp;clear hHeld;refine hK.out _ _ (z0.out) (λhHeld=>?_);clear hK K;try simp only[ly]
    refine rd 6 (λK hK=>?_);rw[if_pos (by rfl)];refine pH _ rfl cn (by rfl) hcn h1c ?_;clear hHeld;refine hK.out _ _ (z1.out) (λhHeld=>?_);clear hK K;try simp only[ly]
    refine rd 7 (λK hK=>?_);refine pG (by rfl) _ _ 83 (by rfl) _ _ _ w7 (by rfl) (by rfl) r7 ?_;clear hHeld;refine hK.out _ _ (z7.out) (λhHeld=>?_);clear hK K;try simp only[ly]
    refine tk 8 ?_;try simp only[ly]
    refine tk 9 ?_;try simp only[ly]
    refine rd 10 (λK hK=>?_);go_simp;clear hHeld;refine hK.out _ _ (z8.out) (λhHeld=>?_);clear hK K;try simp only[ly]
    refine wpAnyH_done (by kernel_rfl) ?_ _;go_wp2_with fail
    go_meet
    case rel=>exact⟨_,V7.out⟩
   refine AllReadyH.cons rfl (λK hK=>?_) AllReadyH.nil;rw[if_pos (by rfl)];refine pH _ rfl cn (by rfl) hcn h1c ?_;clear hHeld;refine hK.out _ _ (z1.out) (λhHeld=>?_);clear hK K;try simp only[ly]
   refine rd 4 (λK hK=>?_);go_simp;clear hHeld;refine hK.out _ _ (z1.out) (λhHeld=>?_);clear hK K;try simp only[ly]
   refine rd 7 (λK hK=>?_);refine pG (by rfl) _ _ 83 (by rfl) _ _ _ w7 (by rfl) (by rfl) r7 ?_;clear hHeld;refine hK.out _ _ (z7.out) (λhHeld=>?_);clear hK K;try simp only[ly]
   refine tk 8 ?_;try simp only[ly]
   refine tk 9 ?_;try simp only[ly]
   refine rd 10 (λK hK=>?_);go_simp;clear hHeld;refine hK.out _ _ (z8.out) (λhHeld=>?_);clear hK K;try simp only[ly]
   refine wpAnyH_done (by kernel_rfl) ?_ _;go_wp2_with fail
   go_meet
   case rel=>exact⟨_,V7.out⟩
  case rest =>
  obtain⟨sl',V8⟩:=hcut;clear c4 c4a c4b c47 f47 z0 z1 z7 z8 V7 r7 N1;have N8:Hid (Nw w1.heap.size w2.heap.size M a7 w (.slice A ds.length cap) (.slice B ls.length e9) w.heap.size (w2.heap.size+1) w4.heap.size cw cn sl' (k+1) (xs++cn.toList) ns wc):=by rw[hV]at V8;exact V8
  have n0:wc.cell? ⟨w,0,none⟩=some (.slice A ds.length cap):=N8.out.bN.cell 0 _ rfl;have n1:wc.cell? ⟨w,1,none⟩=some (.slice B ls.length e9):=N8.out.bN.cell 1 _ rfl;have bw8:Hid (Bz wc (w2.heap.size+1) cw 89):=N8.out.bw;have bn8:Hid (Bz wc w4.heap.size cn 89):=N8.out.bn;have HW:Hid ((prog.info? 89).map (·.size)=some cw.size):=fw K1.out.2.1.1;have HNN:Hid ((prog.info? 89).map (·.size)=some cn.size):=fw K1.out.1.1;obtain⟨sw,sn,q1,q2,q3⟩:∃sw sn,Hid (SetsV cw sw) /\ Hid (SetsV cn sn) /\ Hid (NInv ds ls k ns sw sn):=by
   rcases K1.out.2.2.2 with⟨_,_,sw,sn,q1,q2,q3⟩|⟨h,_⟩
   ·exact⟨sw,sn,q1,q2,q3⟩
   ·cases h
  have GW:Hid (Cl 28 #[.pointer (some ⟨w2,0,none⟩),.agg #[.slice A ds.length cap,.slice B ls.length e9],.agg cw,.agg cn] wc λe w'=>∃(cx:Array Value) (er:Int) (ns':List Nd),e=.returned (.tuple #[.agg cx,er]) /\ Hid (cx.size=40 /\ cx.all (·.oneCell')=true) /\ Hid (V cw cn sl' (k+1) (xs++cn.toList) ns' w') /\ Hid (Ext ns ns' /\ ns'.length<=ns.length+gW*(4*ds.length)) /\ Hid ((er=0 /\ ∃sx,SetsV cx sx /\ GInv ds ls (λi=>sn i 0=sw i 0 /\ sn i 1=sw i 1 /\ sn i 2=sw i 2 /\ sn i 3=sw i 3) (λa b=>ev ns (sn a b)) ds.length 0 ns' sx)\/(er=6 /\ (E\/a7<=ns.length+gW*(4*ds.length))))):=by
   refine(uF N8.out.ar A B cap e9 ds ls cw cn sw sn hz hdv ((hD.out.below N8.out.be).mono N8.out.low) ((hL.out.below N8.out.be).mono N8.out.low) q1 q2 q3.out.ltn K1.out.1.2 gW E (λi q a b d hd ha hb hp=>by
    have hi:i<10:=by
     have h1:=(List.getElem?_eq_some_iff.1 hd).1;have h2:=(bi hz.out).1;omega
    rw[q3.out.fn a b ha hb,q3.out.fn i 0 hi (by omega),q3.out.fn i 1 hi (by omega),q3.out.fn i 2 hi (by omega),q3.out.fn i 3 hi (by omega)];exact HWB.out k GR.out i q a b d hd ha hb hp)).mono λe w' h=>?_
   obtain⟨cx,er,ns',e1,e2,e3,e4,e5,_,e6,e7⟩:=h;refine⟨cx,er,ns',e1,⟨e2,?_⟩,?_,⟨e5,e6⟩,?_⟩
   ·rcases e7.out with⟨_,sx,q,_⟩|⟨_,q,_⟩
    ·exact zh q
    ·rw[q];exact zeros_one
   ·rw[hV];exact N8.out.step e3 e4
   ·rcases e7.out with q|⟨q,_,q'⟩
    ·exact Or.inl q
    ·exact Or.inr ⟨q,q'⟩
  have WF1:Hid (Wf 14 ns):=N8.out.ar.wf;clear N8;go_upto_region 12 with fail
  iterate 7 go_step
  refine wpList_load_row rfl 89 _ rfl _ rfl _ cw (0,0) _ bw8.out bQ rfl HW.out ?_;simp only[Act.put,List.setIfInBounds_toArray,List.set_cons_zero,List.set_cons_succ];refine wpList_load_row rfl 89 _ rfl _ rfl _ cn (0,0) _ bn8.out bQ rfl HNN.out ?_;simp only[Act.put,List.setIfInBounds_toArray,List.set_cons_zero,List.set_cons_succ];clear n0 n1 bw8 bn8 HW
  iterate 2 go_step
  with_reducible refine GW.out.mono ?_
  rintro e w9⟨cx',er',ns',rfl,HC9,V9,X9,G9⟩;have ZA:Hid (∀W:World,(W.alloc (.cells zeros40 89)).heap[W.heap.size]?=some (.cells zeros40 89 (0,0))):=λW=>Go.heap_alloc_new W _;have HN9:Hid ((prog.info? 89).map (·.size)=some cx'.size):=fw HC9.out.1;have HZ:Hid (zeros40.size=cx'.size):=by show _=_;rw[HC9.out.1];rfl
  clear GW V8;dsimp only
  iterate 14 go_step
  refine wp_store_row 89 _ _ rfl _ cx' rfl rfl _ _ (ZA.out w9) HN9.out HZ.out HC9.out.2 ?_;rw[World.setRow_alloc_new];simp only[Act.put];have V10:V cw cn sl' (k+1) (xs++cn.toList) ns' (w9.alloc (.cells cx' 89)):=by
   have h:=V9.out;rw[hV]at h ⊢;exact h.below ((Below.refl _ _).alloc (Nat.le_refl _) _)
  have b10:Hid (Bz (w9.alloc (.cells cx' 89)) w9.heap.size cx' 89):=Bz.new w9 _ _ _ rfl;have l10:Hid (w1.heap.size<=w9.heap.size /\ w9.heap.size≠w4.heap.size /\ w9.heap.size≠w2.heap.size+1):=by
   have h:=V9.out;rw[hV]at h;have a1:=h.bn.lt;have a2:=h.bw.lt;have a3:=h.size;exact⟨a3,by omega,by omega⟩
  clear ZA HZ V9;generalize w9.alloc (.cells cx' 89)=W10 at *;generalize w9.heap.size=NX at *;go_upto_region 13 with fail;have h10:Hid (ds.length<=10):=(bi hz.out).1;have N10:Hid (Nw w1.heap.size w2.heap.size M a7 w (.slice A ds.length cap) (.slice B ls.length e9) w.heap.size (w2.heap.size+1) w4.heap.size cw cn sl' (k+1) (xs++cn.toList) ns' W10):=by
   have h:=V10;rw[hV]at h;exact h
  have HH:Hid (Hist ds ls (k+1) (xs++cn.toList) ns'):=(K1.out.2.2.1.1.app HLL.out q3.out q2.out).ext WF1.out N10.out.ar.wf X9.out.1;obtain⟨r,hr⟩:∃r:Bool,Hid ((r=true /\ er'=0 /\ ∀a b,a<10->b<4->ak ds ls (k+1) a b=ak ds ls k a b)\/(r=false /\ er'=6 /\ dS ds ls a7 gW E)\/(r=false /\ er'=0 /\ aV ds ls k<aV ds ls (k+1) /\ ∃sx,SetsV cx' sx /\ NInv ds ls (k+1) ns' sn sx)) /\ Hid (er'=0->(binOp .eql 89 (.agg cx') (.agg cn)).run prog W10=.ok (.bool r) W10):=by
   rcases G9.out with⟨he,sx,g1,g2⟩|⟨he,he6⟩
   ·obtain⟨r,e1,e2⟩:=ze g1 q2.out W10;refine⟨r,?_,λ_=>e1⟩;cases r
    ·refine Or.inr (Or.inr ⟨rfl,he,?_,sx,g1,yS q3.out h10.out WF1.out N10.out.ar.wf X9.out.1 g2⟩);have hn:¬ ∀a b,a<10->b<4->sx a b=sn a b:=λh=>by cases e2.2 h
     have hn2:∃a b,a<10 /\ b<4 /\ sx a b≠sn a b:=Classical.byContradiction λhc=>hn λa b ha hb=>Classical.byContradiction λh2=>hc ⟨a,b,ha,hb,h2⟩;obtain⟨a,b,ha,hb,hne⟩:=hn2;exact yV q3.out h10.out WF1.out N10.out.ar.wf X9.out.1 g2 ha hb hne
    ·exact Or.inl ⟨rfl,he,yT q3.out h10.out WF1.out N10.out.ar.wf X9.out.1 g2 (e2.1 rfl)⟩
   ·refine⟨false,Or.inr (Or.inl ⟨rfl,he,k,GR.out,?_⟩),λh=>by rw[he]at h;cases h⟩;rcases he6 with h|h
    ·exact Or.inl h
    ·exact Or.inr (gX K1.out.2.2.1.2 h)
  obtain⟨hr,hq⟩:=hr;have bn10:Hid (Bz W10 w4.heap.size cn 89):=N10.out.bn;have Q2:Hid (SetsV cn sn):=q2;have LN:Hid (ns'.length<=2+44*ds.length+gW*(4*ds.length)*(k+1)):=gX K1.out.2.2.1.2 X9.out.2;clear X9 G9 q1 q2 q3;go_cut [64]from 38 to 68 (λv64 wx=>v64=.bool r /\ wx=W10)
  case first =>
   rcases(show Hid (er'=0\/(er'=6 /\ r=false)) by
    rcases hr.out with⟨_,h,_⟩|⟨h1,h2,_⟩|⟨_,h,_⟩
    ·exact Or.inl h
    ·exact Or.inr ⟨h2,h1⟩
    ·exact Or.inl h).out with rfl|⟨rfl,rfl⟩
   ·have EQ:=zi (hq.out rfl);clear hr hq
    iterate 10 go_step
    refine BigFrame.wpList_want (by rfl) (λK hK=>?_);refine wp_load_row 89 _ rfl _ rfl _ cx' (0,0) _ b10.out bQ rfl HN9.out ?_;refine hK _ _ ?_;clear hK K;simp only[Act.put,List.setIfInBounds_toArray,List.set_cons_zero,List.set_cons_succ];refine BigFrame.wpList_want (by rfl) (λK hK=>?_);refine wp_load_row 89 _ rfl _ rfl _ cn (0,0) _ bn10.out bQ rfl HNN.out ?_;refine hK _ _ ?_;clear hK K;simp only[Act.put,List.setIfInBounds_toArray,List.set_cons_zero,List.set_cons_succ];go_wp2_with fail
    go_meet
    case rel=>exact⟨rfl,rfl⟩
   ·clear hr hq;go_wp2_with fail
    go_meet
    case rel=>exact⟨rfl,rfl⟩
  case rest =>
  obtain⟨rfl,hwc⟩:=hcut;obtain rfl:=hwc.symm;clear hq;cases r
  rotate_left
  ·have FF:Hid (RNewOut ds ls a7 (dS ds ls a7 gW E) w (.returned (.tuple #[.pointer (some ⟨w2,0,none⟩),.int .i64 0])) W10):=by
    refine⟨N10.out.be,Or.inl ⟨w1,w2.heap.size,M,k,sl',xs++cn.toList,ns',rfl,N10.out.low,N10.out.ar,N10.out.c4,N10.out.row,HH.out,GR.out,?_⟩⟩;rcases hr.out with⟨_,_,h⟩|⟨h,_⟩|⟨h,_⟩
    ·exact h
    ·cases h
    ·cases h
   clear hr N10 V10 bn10 b10 hV K1 HH;go_wp2_with fail;go_ret2;exact FF.out
  have bw10:Hid (Bz W10 (w2.heap.size+1) cw 89):=N10.out.bw;have HS1:Hid (cw.size=cn.size):=by show _=_;rw[K1.out.2.1.1,K1.out.1.1]
  have HS2:Hid (cn.size=cx'.size):=by show _=_;rw[K1.out.1.1,HC9.out.1]
  have h1n:Hid (cn.all (·.oneCell')=true):=K1.out.1.2;have HX:Hid (∀i,(W10.drew.setRow (w2.heap.size+1) cn).heap[i]?=if w2.heap.size+1=i then some (.cells cn 89 (0,0))else W10.heap[i]?):=setRow_heap' W10.drew (w2.heap.size+1) cw cn _ bw10.out;have bnA:Hid (Bz (W10.drew.setRow (w2.heap.size+1) cn) w4.heap.size cn 89):=by
   show _=_;rw[HX.out,if_neg N10.out.d1];exact bn10.out
  have sA:Hid (Bz (W10.drew.setRow (w2.heap.size+1) cn) NX cx' 89):=by
   show _=_;rw[HX.out,if_neg (λe=>l10.out.2.2 e.symm)];exact b10.out
  have sB:Hid (Bz ((W10.drew.setRow (w2.heap.size+1) cn).setRow w4.heap.size cx') NX cx' 89):=by
   show _=_;rw[setRow_heap' (W10.drew.setRow (w2.heap.size+1) cn) w4.heap.size cn cx' _ bnA.out,if_neg (λe=>l10.out.2.1 e.symm)];exact sA.out
  have V11:V cn cx' sl' (k+1) (xs++cn.toList) ns' ((W10.drew.setRow (w2.heap.size+1) cn).setRow w4.heap.size cx'):=by
   rw[hV];exact(N10.out.below (Below.refl _ _).drew).turn
  have L11:Hid (gj ((W10.drew.setRow (w2.heap.size+1) cn).setRow w4.heap.size cx') w2.heap.size=k+1):=by
   have h:=V11;rw[hV]at h;exact h.len
  have L1:Hid (gj wr w2.heap.size=k):=LW1.out;have K11:Hid (lu ds ls (dS ds ls a7 gW E) (gW*(4*ds.length)) er' (k+1) cn cx' (xs++cn.toList) ns'):=by
   refine⟨HC9.out,K1.out.1,⟨HH.out,LN.out⟩,?_⟩;rcases hr.out with⟨h,_⟩|⟨_,h,h'⟩|⟨_,h,h2,sx,h3,h4⟩
   ·cases h
   ·exact Or.inr ⟨h,h'⟩
   ·refine Or.inl ⟨h,λj hj=>?_,sn,sx,Q2.out,h3,h4⟩;by_cases e:j=k
    ·rw[e];exact h2
    ·exact GR.out j (by omega)
  have sD:Hid (Bz W10.drew NX cx' 89):=b10.out;have bnD:Hid (Bz W10.drew w4.heap.size cn 89):=bn10.out;have bwD:Hid (Bz W10.drew (w2.heap.size+1) cw 89):=bw10.out;have h40:cx'.size=40:=HC9.out.1;have hkn:=hkk.out;clear N10 V10 hr HX K1 HH GR;go_upto_region 15 with fail;refine wp_region_held_drew (S:=λW=>Bz W NX cx' 89) (by kernel_rfl) sD.out (λhHeld=>?_);refine tk 2 ?_;try simp only[ly]
  refine' wpAnyH_take (i:=1) (v:=.agg cx') rfl (by kernel_rfl) (by kernel_rfl) (by kernel_rfl) (λ_ _ _ h=>h) (yieldsIf_load_mid (by rfl) 89 _ rfl NX 0 rfl cx'.toList _ (λW hS j v hj=>by rw[Nat.zero_add];exact Bz.cell hS j v (by simpa using hj)) bQ rfl (by rw[Array.length_toList,h40];exact db)) ‹_› ?gr11;try simp only[ly]
  refine rd 0 (λK hK=>?_);rw[if_pos (by rfl)];refine wp_load_row 89 _ rfl _ rfl _ cn (0,0) _ bnD.out bQ rfl HNN.out ?_;clear hHeld;refine hK.out _ _ (sD.out) (λhHeld=>?_);clear hK K;try simp only[ly]
  refine rd 3 (λK hK=>?_);rw[if_pos (by rfl)];refine wp_store_row 89 _ _ rfl _ cn rfl rfl _ _ bwD.out HNN.out HS1.out h1n.out ?_;clear hHeld;refine hK.out _ _ (sA.out) (λhHeld=>?_);clear hK K;try simp only[ly]
  refine rd 4 (λK hK=>?_);rw[if_pos (by rfl)];refine wp_store_row 89 _ _ rfl _ cx' rfl rfl _ _ bnA.out HN9.out HS2.out HC9.out.2 ?_;clear hHeld;refine hK.out _ _ (sB.out) (λhHeld=>?_);clear hK K;try simp only[ly]
  refine tk 5 ?_;try simp only[ly]
  refine wpAnyH_done (by kernel_rfl) ?_ _;go_wp2_with fail;go_roundw
  case rel=>exact⟨er',k+1,cn,cx',sl',xs++cn.toList,ns',rfl,V11,K11⟩
  case measure=>rw[L11.out,L1.out];omega
end
section
variable {a9 a M a8 a7:Nat}{w:World}{ns:List Nd}
theorem zj(h:Ar a9 a M a8 a7 w ns){v:Nat}(hv:v<a8):CS 86 #[.pointer a,(v:Int)] w (.int .i64 ((2 ^ (a8-1-v):Nat):Int)):=by
 have v16:=h.vars16;obtain⟨cap,a0,a1,a2,a3,af,an⟩:=h.reads;have wr1:IntKind.i64.wrap ((a8:Int)-1)=(a8:Int)-1:=IntWalk.i64_in _ (by omega);have wr2:IntKind.i64.wrap ((a8:Int)-1-(v:Int))=(a8:Int)-1-(v:Int):=IntWalk.i64_in _ (by omega);have hp:2 ^ (a8-1-v)<=2 ^ 16:=Nat.pow_le_pow_right (by omega) (by omega);have hw:wrap64 (2 ^ (a8-1-v))=((2 ^ (a8-1-v):Nat):Int):=by
  have e:(2:Int) ^ (a8-1-v)=((2 ^ (a8-1-v):Nat):Int):=by simp
  rw[e,<- IntWalk.i64_left];generalize 2 ^ (a8-1-v)=p at *;exact IntWalk.i64_in _ (by omega)
 have hw':=Hd.mk hw;clear h an hw;go_enter func86,ntmps86;go_wp2_with fail;go_ret;refine⟨?_,rfl⟩;rw[<- hw'.out];rfl
theorem lz(h:Ar a9 a M a8 a7 w ns){v:Nat}(hv:v<a8):Cl 86 #[.pointer a,(v:Int)] w λe w'=>∃q:Nat,e=.returned (q:Int) /\ Hd (q=2 ^ (a8-1-v)) /\ w'=w :=
 (zj h hv).mono (λ_ _ ⟨h1,h2⟩=>⟨_,h1,⟨rfl⟩,h2⟩)
theorem zk(b k:Nat):b &&& 2 ^ k=if b.testBit k then 2 ^ k else 0:=by
 apply Nat.eq_of_testBit_eq;intro i;rw[Nat.testBit_and,Nat.testBit_two_pow];by_cases h:k=i
 ·subst h;cases hb:b.testBit k
  ·simp
  ·simp
 ·cases hb:b.testBit k
  ·simp[h]
  ·simp[h]
theorem zl(a8 v b:Nat):((b &&& 2 ^ (a8-1-v)) != 0)=envOf a8 b v:=by
 rw[zk,envOf];have:0<2 ^ (a8-1-v):=Nat.two_pow_pos _;cases b.testBit (a8-1-v)
 ·simp
 ·simp
end
section
variable {a9 a M a8 a7:Nat}{w:World}{ns:List Nd}
theorem zm(h:Ar a9 a M a8 a7 w ns){f b:Nat}(hf:f<ns.length)(hb:b<2 ^ a8) :
  CB 56 #[.pointer a,(f:Int),(b:Int)] w (.tuple #[.bool (ev ns f (envOf a8 b)),.int .i64 0]):=by
 have v16:=h.vars16;have wf:=h.wf;have hl4:ns.length<=40000:=Nat.le_trans h.le h.most4;have hpw:2 ^ a8<=2 ^ 16:=Nat.pow_le_pow_right (by omega) v16;have t1:(decide ((0:Int)<=(f:Int))&&decide ((f:Int)<(ns.length:Int)))=true:=by simp;omega
 have t2:decide ((b:Int)<0)=false:=by simp
 have hw:wrap64 (2 ^ a8)=((2 ^ a8:Nat):Int):=by
  have e:(2:Int) ^ a8=((2 ^ a8:Nat):Int):=by simp
  rw[e,<- IntWalk.i64_left];generalize 2 ^ a8=p at *;exact IntWalk.i64_in _ (by omega)
 have hw2:IntKind.i64.wrap (2 ^ a8)=((2 ^ a8:Nat):Int):=by rw[IntWalk.i64_left];exact hw
 have t3:decide (((2 ^ a8:Nat):Int)<=(b:Int))=false:=by simp only[decide_eq_false_iff_not];omega
 obtain⟨cap0,a0,_⟩:=h.reads;generalize hpp:(2:Nat) ^ a8=pp at *;have t4:decide (pp<=b)=false:=by simp;omega
 go_enter func56,ntmps56;go_wp2_with (go_at_call 84;refine(di h (f:Int)).mono ?_;rintro e w'⟨rfl,rfl⟩;rw[t1]);go_loopw[1] (λg wr=>∃F:Nat,g=.int .i64 (F:Int) /\ F<ns.length /\ ev ns F (envOf a8 b)=ev ns f (envOf a8 b) /\ Below w' w' wr) (λg _=>(intOf g).toNat)
 case atStart=>exact⟨f,rfl,hf,rfl,Below.refl _ _⟩
 case round =>
  obtain⟨F,rfl,hF,hE,hK⟩:=hrel;have hA:=h.below hK;by_cases hF2:2<=F
  ·have t5:decide ((1:Int)<(F:Int))=true:=by simp;omega
   obtain⟨cap,c0,c1,c2,c3,cf,cn⟩:=hA.reads;obtain⟨n0,n1,n2⟩:=cn F hF;have hlo:=wf.lo F hF2 hF;have hhi:=wf.hi F hF2 hF;have hva:=wf.va F hF2 hF;have hA1:=hA.alloc (.cells #[(nv ns F:Int),(nl ns F:Int),(nh ns F:Int)] 144);have hK1:=Below.alloc' hK (.cells #[(nv ns F:Int),(nl ns F:Int),(nh ns F:Int)] 144);have hev:=cE wf hF2 hF (envOf a8 b);have hb63:b<9223372036854775808:=by omega
   have hq63:∀q:Nat,q=2 ^ (a8-1-nv ns F)->(Go.bits .and .i64 (b:Int) (q:Int) != 0)=envOf a8 b (nv ns F):=λq hq=>by
    have h16:2 ^ (a8-1-nv ns F)<=2 ^ 16:=Nat.pow_le_pow_right (by omega) (by omega);rw[gU b q hb63 (by omega),<- zl a8 (nv ns F) b,hq];generalize b &&& 2 ^ (a8-1-nv ns F)=z;cases z <;> simp <;> omega
   have hq63':=Hd.mk hq63;generalize rowOf wr a=g at *;clear cn hq63;cases hcase:envOf a8 b (nv ns F)
   ·go_wp2_with (go_at_call 86;refine(lz hA1 hva).mono ?_;rintro e w2⟨q,rfl,hq,rfl⟩;have hbt:=hq63'.out q hq.out;rw[hcase]at hbt);go_roundw
    case rel=>exact⟨nl ns F,rfl,by omega,by rw[<- hE,hev,hcase];simp,hK1⟩
    case measure=>simp[intOf];omega
   ·go_wp2_with (go_at_call 86;refine(lz hA1 hva).mono ?_;rintro e w2⟨q,rfl,hq,rfl⟩;have hbt:=hq63'.out q hq.out;rw[hcase]at hbt);go_roundw
    case rel=>exact⟨nh ns F,rfl,by omega,by rw[<- hE,hev,hcase];simp,hK1⟩
    case measure=>simp[intOf];omega
  ·have t5:decide ((1:Int)<(F:Int))=false:=by simp;omega
   rcases(show F=0\/F=1 by omega)with rfl|rfl
   ·go_wp2_with fail;go_ret2;exact⟨by rw[<- hE,ev0];rfl,hK⟩
   ·go_wp2_with fail;go_ret2;exact⟨by rw[<- hE,ev1];rfl,hK⟩
end
structure Rc(bR R MR a7:Nat)(sl:Value)(n:Nat)(xs:List Value)(ns:List Nd)(W:World):Prop where
 ar:Ar bR R MR 14 a7 W ns
 c4:W.cell? ⟨R,4,none⟩=some sl
 row:W.ownsRow bR 89 40 sl n xs
theorem Rc.below{bR R MR a7 n:Nat}{sl:Value}{xs:List Value}{ns:List Nd}{W W':World}(h:Rc bR R MR a7 sl n xs ns W)(hb:Below W W W'):Rc bR R MR a7 sl n xs ns W' :=
 ⟨h.ar.below hb,(bJ (hb.block _ h.ar.lta)).trans h.c4,jD h.row (KeptB.of_below hb) (λg _=>by simp)⟩
theorem Rc.lt{bR R MR a7 n:Nat}{sl:Value}{xs:List Value}{ns:List Nd}{W:World}(h:Rc bR R MR a7 sl n xs ns W):R<W.heap.size:=h.ar.lta
theorem Rc.sl{bR R MR a7 n:Nat}{sl:Value}{xs:List Value}{ns:List Nd}{W:World}(h:Rc bR R MR a7 sl (n+1) xs ns W):∃g cap,sl=.slice (some ⟨g,0,none⟩) (n+1) cap /\ g<W.heap.size /\ n+1<=cap /\ cap<=maxLen /\ xs.length=(n+1)*40 /\ ∀j v,xs[j]?=some v->W.cell? ⟨g,j,none⟩=some v:=by
 rcases h.row.2 with⟨_,h0⟩|⟨g,cap,cur,h1,h2,h3,h4,h5,h6,h7⟩
 ·omega
 ·refine⟨g,cap,h1,(Array.getElem?_eq_some_iff.1 h3).1,?_,?_,h.row.1,λj v hj=>?_⟩
  ·first|exact h4|exact h5|omega
  ·first|exact h5|exact h4|omega
  ·have hl:=(List.getElem?_eq_some_iff.1 hj).1;have hr:=h.row;rw[h1]at hr;rw[hr.cellAt j (by have:=h.row.1;omega),hj]
theorem zo(x:Nat)(ts:Array TypeId)(t:TypeId)(W:World):(Builtin.max_ ts t #[(x:Int),.int .i64 0]).run prog W=.ok (.int .i64 (x:Int)) W:=by
 by_cases h:x=0
 ·subst h;simp[Builtin.max_,Builtin.max2]
 ·simp[Builtin.max_,Builtin.max2];omega
theorem pJ{bR R MR a7 n:Nat}{sl:Value}{xs:List Value}{ns:List Nd}{W:World}(h:Rc bR R MR a7 sl (n+1) xs ns W)(hn:n<1000000) :
  CS 21 #[.pointer R] W (.int .i64 (n:Int)):=by
 obtain⟨g,cap,rfl,_⟩:=h.sl;have c4:=h.c4;have e1:IntKind.i64.wrap (((n+1:Nat):Int)-1)=(n:Int):=by rw[IntKind.wrap_i64];omega
 have hm:=λts t W=>zo n ts t W;clear h;go_enter func21,ntmps21;go_wp2_with fail;go_ret;exact⟨rfl,rfl⟩
def atN(s:Nat->Nat->Nat)(p q:Int):Nat:=if(0<=p /\ p<10) /\ (0<=q /\ q<4)then s p.toNat q.toNat else 0
theorem jE(c:Array Value)(s:Nat->Nat->Nat)(p q:Int)(w:World)(hc:SetsV c s) :
  CB 32 #[.agg c,.agg #[p,q]] w (.int .i64 (atN s p q:Int)):=by
 by_cases h:(0<=p /\ p<10) /\ (0<=q /\ q<4)
 ·obtain⟨i,rfl⟩:∃i:Nat,p=(i:Int):=⟨p.toNat,by omega⟩;obtain⟨j,rfl⟩:∃j:Nat,q=(j:Int):=⟨q.toNat,by omega⟩;have e:atN s (i:Int) (j:Int)=s i j:=by unfold atN;rw[if_pos h];rfl
  rw[e];exact mD c s i j w hc (by omega) (by omega)
 ·have e:atN s p q=0:=by unfold atN;rw[if_neg h]
  rw[e];have D0:Below w w ((w.alloc (.cells c 89)).alloc (.cells #[p,q] 27)):=((Below.refl _ w).alloc (Nat.le_refl _) _).alloc (by simp) _;by_cases a0:p<0
  ·have t0:decide (p<0)=true:=by simp;omega
   clear h e hc;go_enter func32,ntmps32;go_wp2_with fail;go_ret;exact⟨rfl,D0⟩
  have t0:decide (p<0)=false:=by simp;omega
  by_cases a1:10<=p
  ·have t1:decide (10<=p)=true:=by simp;omega
   clear h e hc;go_enter func32,ntmps32;go_wp2_with fail;go_ret;exact⟨rfl,D0⟩
  have t1:decide (10<=p)=false:=by simp;omega
  by_cases a2:q<0
  ·have t2:decide (q<0)=true:=by simp;omega
   clear h e hc;go_enter func32,ntmps32;go_wp2_with fail;go_ret;exact⟨rfl,D0⟩
  have t2:decide (q<0)=false:=by simp;omega
  have t3:decide (4<=q)=true:=by simp;omega
  clear h e hc;go_enter func32,ntmps32;go_wp2_with fail;go_ret;exact⟨rfl,D0⟩
def adR(n:Int):Bool:=decide (0<=n)&&decide (n<16)
def poR(n:Int):Bool:=decide (0<=n)&&decide (n<8)
def pkR(s d sp dp:Int):Bool:=adR s&&adR d&&poR sp&&poR dp
theorem pK(n:Int)(w:World):CS 114 #[n] w (.bool (adR n)):=by
 unfold adR;cases h1:decide (0<=n)
 ·go_enter func114,ntmps114;go_wp2_with fail;go_ret;exact⟨by simp,rfl⟩
 ·go_enter func114,ntmps114;go_wp2_with fail;go_ret;exact⟨by simp,rfl⟩
theorem pL(n:Int)(w:World):CS 115 #[n] w (.bool (poR n)):=by
 unfold poR;cases h1:decide (0<=n)
 ·go_enter func115,ntmps115;go_wp2_with fail;go_ret;exact⟨by simp,rfl⟩
 ·go_enter func115,ntmps115;go_wp2_with fail;go_ret;exact⟨by simp,rfl⟩
theorem pM(s d sp dp:Int)(w:World):CB 73 #[pk s d sp dp] w (.int .i64 (if pkR s d sp dp then 0 else 1)):=by
 have D0:=Below.alloc' (Below.refl w w) (.cells #[s,d,sp,dp] 37);have A1:Hid (∀w,CS 114 #[s] w (.bool (adR s))):=λw=>pK s w;have A2:Hid (∀w,CS 114 #[d] w (.bool (adR d))):=λw=>pK d w;have A3:Hid (∀w,CS 115 #[sp] w (.bool (poR sp))):=λw=>pL sp w;have A4:Hid (∀w,CS 115 #[dp] w (.bool (poR dp))):=λw=>pL dp w;unfold pkR;generalize adR s=x1 at *;generalize adR d=x2 at *;generalize poR sp=x3 at *;generalize poR dp=x4 at *;cases x1
 ·go_enter func73,ntmps73;go_wp2_with fail;refine(A1.out _).mono ?_;rintro e w'⟨rfl,rfl⟩;go_wp2_with fail;go_ret;exact⟨by simp,D0⟩
 cases x2
 ·go_enter func73,ntmps73;go_wp2_with fail;refine(A1.out _).mono ?_;rintro e w'⟨rfl,rfl⟩;go_wp2_with fail;refine(A2.out _).mono ?_;rintro e w'⟨rfl,rfl⟩;go_wp2_with fail;go_ret;exact⟨by simp,D0⟩
 cases x3
 ·go_enter func73,ntmps73;go_wp2_with fail;refine(A1.out _).mono ?_;rintro e w'⟨rfl,rfl⟩;go_wp2_with fail;refine(A2.out _).mono ?_;rintro e w'⟨rfl,rfl⟩;go_wp2_with fail;refine(A3.out _).mono ?_;rintro e w'⟨rfl,rfl⟩;go_wp2_with fail;go_ret;exact⟨by simp,D0⟩
 cases x4;all_goals
  go_enter func73,ntmps73;go_wp2_with fail;refine(A1.out _).mono ?_;rintro e w'⟨rfl,rfl⟩;go_wp2_with fail;refine(A2.out _).mono ?_;rintro e w'⟨rfl,rfl⟩;go_wp2_with fail;refine(A3.out _).mono ?_;rintro e w'⟨rfl,rfl⟩;go_wp2_with fail;refine(A4.out _).mono ?_;rintro e w'⟨rfl,rfl⟩;go_wp2_with fail;go_ret;exact⟨by simp,D0⟩
def codeR(s d sp dp:Int):Nat:=(s*1024+d*64+sp*8+dp).toNat
theorem zp{s d sp dp:Int}(h:pkR s d sp dp=true):codeR s d sp dp<16384:=by
 unfold pkR adR poR at h;simp at h;unfold codeR;omega
theorem zr(s d sp dp:Int)(w:World)(h:pkR s d sp dp=true):CB 54 #[pk s d sp dp] w (.tuple #[(codeR s d sp dp:Int),.int .i64 0]):=by
 have CK:Hid (∀w,CB 73 #[pk s d sp dp] w (.int .i64 0)):=λw=>by
  have:=pM s d sp dp w;rw[if_pos h]at this;exact this
 unfold pkR adR poR at h;simp at h;obtain⟨a,rfl⟩:∃a:Nat,s=(a:Int):=⟨s.toNat,by omega⟩;obtain⟨b,rfl⟩:∃a:Nat,d=(a:Int):=⟨d.toNat,by omega⟩;obtain⟨c,rfl⟩:∃a:Nat,sp=(a:Int):=⟨sp.toNat,by omega⟩;obtain⟨e,rfl⟩:∃a:Nat,dp=(a:Int):=⟨dp.toNat,by omega⟩;have hc:((a:Int)*1024+(b:Int)*64+(c:Int)*8+(e:Int))=(codeR (a:Int) (b:Int) (c:Int) (e:Int):Int):=by unfold codeR;omega
 have w1:IntKind.i64.wrap ((a:Int)*1024)=(a:Int)*1024:=IntWalk.i64_in _ (by omega);have w2:IntKind.i64.wrap ((b:Int)*64)=(b:Int)*64:=IntWalk.i64_in _ (by omega);have w3:IntKind.i64.wrap ((a:Int)*1024+(b:Int)*64)=(a:Int)*1024+(b:Int)*64:=IntWalk.i64_in _ (by omega);have w4:IntKind.i64.wrap ((c:Int)*8)=(c:Int)*8:=IntWalk.i64_in _ (by omega);have w5:IntKind.i64.wrap ((a:Int)*1024+(b:Int)*64+(c:Int)*8)=(a:Int)*1024+(b:Int)*64+(c:Int)*8:=IntWalk.i64_in _ (by omega);have w6:IntKind.i64.wrap ((a:Int)*1024+(b:Int)*64+(c:Int)*8+(e:Int))=(a:Int)*1024+(b:Int)*64+(c:Int)*8+(e:Int):=IntWalk.i64_in _ (by omega);rw[<- hc];have D0:=Below.alloc' (Below.refl w w) (.cells #[(a:Int),(b:Int),(c:Int),(e:Int)] 37);have Z0:Hid (Bz (w.alloc (.cells #[(a:Int),(b:Int),(c:Int),(e:Int)] 37)) w.heap.size #[(a:Int),(b:Int),(c:Int),(e:Int)] 37):=Bz.new w _ _ _ rfl;clear hc h;go_enter func54,ntmps54;go_wp2_with fail;refine(CK.out _).mono ?_;rintro en w2⟨rfl,hb⟩;have D2:=ag hb D0;have Z2:Bz w2 w.heap.size #[(a:Int),(b:Int),(c:Int),(e:Int)] 37:=(hb.block _ Z0.out.lt).trans Z0.out;have c0:=Z2.cell 0 _ rfl;have c1:=Z2.cell 1 _ rfl;have c2:=Z2.cell 2 _ rfl;have c3:=Z2.cell 3 _ rfl;clear hb D0 Z0 Z2 CK;go_wp2_with fail;go_ret2;exact⟨rfl,D2⟩
theorem zt(s d sp dp:Int)(w:World)(h:pkR s d sp dp=false):CB 54 #[pk s d sp dp] w (.tuple #[.int .i64 0,.int .i64 1]):=by
 have CK:Hid (∀w,CB 73 #[pk s d sp dp] w (.int .i64 1)):=λw=>by
  have:=pM s d sp dp w;rw[h]at this;exact this
 have D0:=Below.alloc' (Below.refl w w) (.cells #[s,d,sp,dp] 37);clear h;go_enter func54,ntmps54;go_wp2_with fail;refine(CK.out _).mono ?_;rintro en w2⟨rfl,hb⟩;have D2:=ag hb D0;clear hb D0 CK;go_wp2_with fail;go_ret2;exact⟨rfl,D2⟩
def Found1(n:Nat)(P:Nat->Bool)(k:Nat):Prop:=k<=n /\ (∀t,t<k->P t=false) /\ ∀t,k<=t->t<n->P t=true
theorem pN(c0 c1 c2:Value)(n:Nat)(P:Nat->Bool)(w:World)(hn:n<=1000000)
  (CL:Hd (∀(i:Nat) W,i<n->Below w w W->CB 65 #[(i:Int),c0,c1,c2] W (.bool (P i))))
  (MO:Hd (∀a b,a<=b->b<n->P a=true->P b=true)) :
  Cl 64 #[(n:Int),.func (.func 65) #[] #[c0,c1,c2]] w λe w'=>∃k:Nat,e=.returned (k:Int) /\ Hd (Found1 n P k) /\ Below w w w':=by
 go_enter func64,ntmps64;go_wp2_with fail;go_loopw[5,6] (λv5 v6 wr=>∃lo hi:Nat,v5=.int .i64 (lo:Int) /\ v6=.int .i64 (hi:Int) /\ lo<=hi /\ hi<=n /\ Below w w wr /\ Hd ((∀t,t<lo->P t=false) /\ (∀t,hi<=t->t<n->P t=true))) (λv5 v6 _=>(intOf v6).toNat-(intOf v5).toNat)
 case atStart=>exact⟨0,n,rfl,rfl,by omega,by omega,Below.refl _ _,⟨λt ht=>by omega,λt h1 h2=>by omega⟩⟩
 case round =>
  obtain⟨lo,hi,rfl,rfl,hlh,hin,hB,I⟩:=hrel;by_cases hlt:lo<hi
  ·have hc:=Hd.mk (CL.out ((lo+hi) / 2) wr (by omega) hB);obtain⟨b,hb⟩:∃b,P ((lo+hi) / 2)=b:=⟨_,rfl⟩;rw[hb,show(((lo+hi) / 2:Nat):Int)=((lo:Int)+(hi:Int)) / 2 by omega]at hc;have I2:Hd (b=false->(∀t,t<(lo+hi) / 2+1->P t=false) /\ (∀t,hi<=t->t<n->P t=true)):=⟨λe=>⟨λt ht=>(by
    cases h:P t with
    | false=>rfl
    | true=>have:=MO.out t ((lo+hi) / 2) (by omega) (by omega) h;rw[hb,e]at this;cases this),I.out.2⟩⟩
   have I3:Hd (b=true->(∀t,t<lo->P t=false) /\ (∀t,(lo+hi) / 2<=t->t<n->P t=true)):=⟨λe=>⟨I.out.1,λt ht htn=>MO.out ((lo+hi) / 2) t ht htn (by rw[hb,e])⟩⟩;clear hb I CL MO;cases b
   ·have J:=I2.out rfl;clear I2 I3;go_wp2_with fail;refine hc.out.mono ?_;rintro e w2⟨rfl,hb2⟩;have D2:=ag hb2 hB;clear hb2 hB hc;go_wp2_with fail;go_roundw
    case rel=>exact⟨(lo+hi) / 2+1,hi,by rw[show((lo:Int)+(hi:Int)) / 2+1=(((lo+hi) / 2+1:Nat):Int) by omega],rfl,by omega,hin,D2,⟨J⟩⟩
    case measure=>simp[intOf];omega
   ·have J:=I3.out rfl;clear I2 I3;go_wp2_with fail;refine hc.out.mono ?_;rintro e w2⟨rfl,hb2⟩;have D2:=ag hb2 hB;clear hb2 hB hc;go_wp2_with fail;go_roundw
    case rel=>exact⟨lo,(lo+hi) / 2,rfl,by rw[show((lo:Int)+(hi:Int)) / 2=(((lo+hi) / 2:Nat):Int) by omega],by omega,by omega,D2,⟨J⟩⟩
    case measure=>simp[intOf];omega
  ·obtain rfl:hi=lo:=by omega
   have F:Hd (Found1 n P hi):=⟨⟨hin,I.out.1,I.out.2⟩⟩;clear I CL MO;go_wp2_with fail;go_ret;exact⟨hi,rfl,F,hB⟩
end Go.Proofs.YtjmclcmgpaofiaaGreat
