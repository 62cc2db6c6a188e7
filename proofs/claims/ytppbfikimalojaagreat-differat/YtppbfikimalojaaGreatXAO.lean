/-
  XAO.
-/
import Derived.Test.YtppbfikimalojaaGreatXAN
import Derived.Test.YtppbfikimalojaaGreatXAA
import Derived.Test.YtppbfikimalojaaGreatXAF
import Derived.Test.YtppbfikimalojaaGreatXAE
import Derived.Test.YtppbfikimalojaaGreatXAL
import Derived.Deep.RegionHeld3
set_option maxHeartbeats 8000000
set_option maxRecDepth 100000
namespace Go.Proofs.YtppbfikimalojaaGreat
open Tryz
open Go.RowKit Go.Maps
def flipP(p:Pk):Pk:=⟨p.d,p.s,p.dp,p.sp⟩
def adB(n:Int):Bool:=decide (0<=n)&&decide (n<16)
def poB(n:Int):Bool:=decide (0<=n)&&decide (n<8)
def i8(p:Pk):Bool:=adB p.s&&adB p.d&&poB p.sp&&poB p.dp
def iA(d:Dv):List Rl:=d.rules.map λr=>⟨r.ok,r.a,r.b,r.c,r.d,r.ha,r.hb,r.hc,r.hd⟩
def routesOf(d:Dv):List Rt:=d.routes.map rtOf
def poolB(d:Dv)(c:Int):Bool:=poB c&&d.pool.testBit c.toNat
abbrev bm:=(Int × Int)->Pk->Prop
abbrev letsD(d:Dv)(p:Pk):Bool:=O2 (iA d) p.s p.d p.sp p.dp
def o4(d:Dv)(i:Int)(I:bm)(o:Int)(p:Pk):Prop :=
 if d.kind=2 then ∃q,0<=q/\q<4/\I (i,q) p/\letsD d p=true/\outB (routesOf d) p.d=true/\outN (routesOf d) p.d=o
 else if d.kind=3 then(if o=1 then I (i,0) p/\letsD d p=true else o=0/\I (i,1) p/\I (i,0) (flipP p)/\letsD d (flipP p)=true)
 else if d.kind=4 then(if o=1 then p.s=d.addr/\poolB d p.sp=true/\∃s sp,I (i,0) ⟨s,p.d,sp,p.dp⟩else o=0/\(∃k,poolB d k=true/\I (i,1) ⟨p.s,d.addr,p.sp,k⟩)/\∃x y,I (i,0) ⟨p.d,x,p.dp,y⟩)
 else if d.kind=5 then(if o=1 then(I (i,0) p/\¬p.d=d.addr)\/(p.d∈d.backs/\I (i,0) ⟨p.s,d.addr,p.sp,p.dp⟩)else o=0/\(I (i,1) p\/(p.s=d.addr/\∃b∈d.backs,I (i,1) ⟨b,p.d,p.sp,p.dp⟩/\I (i,0) ⟨p.d,d.addr,p.dp,p.sp⟩)))
 else False
theorem p9{p:Pk}(h:i8 p=true):(0<=p.s/\p.s<16)/\(0<=p.d/\p.d<16)/\(0<=p.sp/\p.sp<8)/\(0<=p.dp/\p.dp<8):=by
 unfold i8 adB poB at h;simp only[Bool.and_eq_true,decide_eq_true_eq]at h;obtain⟨⟨⟨h1,h2⟩,h3⟩,h4⟩:=h;exact⟨h1,h2,h3,h4⟩
theorem n9{p:Pk}(h1:0<=p.s/\p.s<16)(h2:0<=p.d/\p.d<16)(h3:0<=p.sp/\p.sp<8)(h4:0<=p.dp/\p.dp<8):i8 p=true:=by
 unfold i8 adB poB;simp only[Bool.and_eq_true,decide_eq_true_eq];exact⟨⟨⟨h1,h2⟩,h3⟩,h4⟩
theorem mR(x k:Nat):(if x.testBit k then 2 ^ k else 0)+x % 2 ^ k=x % 2 ^ (k+1):=by
 rw[Nat.mod_pow_succ,Nat.testBit_eq_decide_div_mod_eq];have:x / 2 ^ k % 2=0\/x / 2 ^ k % 2=1:=by omega
 rcases this with h|h
 ·rw[h];simp
 ·rw[h];simp[Nat.add_comm]
theorem ez(n c:Nat):∀(k first:Nat),first+k<=n->val k first (envOf n c)=c / 2 ^ (n-first-k) % 2 ^ k:=by
 intro k
 induction k with
 | zero=>intro first _;simp[val,Nat.mod_one]
 | succ k ih =>
   intro first h;rw[val,ih (first+1) (by omega),envOf,show n-(first+1)-k=n-first-(k+1) by omega,<- mR];have e:c.testBit (n-1-first)=(c / 2 ^ (n-first-(k+1))).testBit k:=by
    rw[Nat.testBit_div_two_pow]
    congr 1
    omega
   rw[e]
theorem cm:∀(k first:Nat) (x:Env) (j:Nat),j<k->(val k first x).testBit (k-1-j)=x (first+j):=by
 intro k
 induction k with
 | zero=>intro first x j h;omega
 | succ k ih =>
   intro first x j h;have hlt:=aW k (first+1) x;have e:val (k+1) first x=(if x first then 2 ^ k else 0)+val k (first+1) x:=rfl;rw[e];by_cases h0:j=0
   ·subst h0;rw[show k+1-1-0=k by omega,Nat.add_zero];cases x first
    ·simp[Nat.testBit_lt_two_pow hlt]
    ·simp only[if_true];rw[Nat.testBit_two_pow_add_eq,Nat.testBit_lt_two_pow hlt];rfl
   ·have e2:k+1-1-j=k-1-(j-1):=by omega
    have e3:=ih (first+1) x (j-1) (by omega);rw[show first+1+(j-1)=first+j by omega]at e3;rw[e2];cases x first
    ·simpa using e3
    ·simp only[if_true];rw[Nat.testBit_two_pow_add_gt (by omega)];exact e3
theorem aR:∀(k bits first:Nat) (x y:Env),(∀i,first<=i->i<first+k->x i=y i)->sel k bits first x=sel k bits first y:=by
 intro k bits first x y h;have v:∀(k first:Nat),(∀i,first<=i->i<first+k->x i=y i)->val k first x=val k first y:=by
  intro k
  induction k with
  | zero=>intro first _;rfl
  | succ k ih =>
    intro first h;show(if x first then 2 ^ k else 0)+val k (first+1) x=(if y first then 2 ^ k else 0)+val k (first+1) y;rw[h first (by omega) (by omega),ih (first+1) (λi h1 h2=>h i (by omega) (by omega))]
 rw[bL,bL,v k first h]
theorem iB:∀(xs:List Rl) (x y:Env),(∀i,i<14->x i=y i)->j6 xs x=j6 xs y
 | [],_,_,_=>rfl
 | r::l,x,y,h=>by
   have e:phi r.a r.b r.c r.d x=phi r.a r.b r.c r.d y:=by
    unfold phi;rw[aR 4 r.a 0 x y (λi h1 h2=>h i (by omega)),aR 4 r.b 4 x y (λi h1 h2=>h i (by omega)),aR 3 r.c 8 x y (λi h1 h2=>h i (by omega)),aR 3 r.d 11 x y (λi h1 h2=>h i (by omega))]
   rw[j6,j6,e,iB l x y h]
def pkE(p:Pk):Env:=λv=>if v<4 then p.s.toNat.testBit (3-v)else if v<8 then p.d.toNat.testBit (7-v)else if v<11 then p.sp.toNat.testBit (10-v)else if v<14 then p.dp.toNat.testBit (13-v)else false
theorem eC{k first n:Nat}{x:Env}(hn:n<2 ^ k)(h:∀j,j<k->x (first+j)=n.testBit (k-1-j)):val k first x=n:=by
 refine Nat.eq_of_testBit_eq λi=>?_;by_cases hi:i<k
 ·have e:=cm k first x (k-1-i) (by omega);rw[h _ (by omega),show k-1-(k-1-i)=i by omega]at e;exact e
 ·rw[Nat.testBit_lt_two_pow (Nat.lt_of_lt_of_le (aW k first x) (Nat.pow_le_pow_right (by omega) (by omega))),Nat.testBit_lt_two_pow (Nat.lt_of_lt_of_le hn (Nat.pow_le_pow_right (by omega) (by omega)))]
theorem t7(sa sb sc sd:Nat){p:Pk}(h:i8 p=true):phi sa sb sc sd (pkE p)=(sa.testBit p.s.toNat&&(sb.testBit p.d.toNat&&(sc.testBit p.sp.toNat&&sd.testBit p.dp.toNat))):=by
 obtain⟨h1,h2,h3,h4⟩:=p9 h;unfold phi;rw[bL,bL,bL,bL,Bool.and_true,
  eC (k:=4) (first:=0) (n:=p.s.toNat) (by show _<16;omega) (λj hj=>by unfold pkE;rw[if_pos (by omega)];congr 1;omega),
  eC (k:=4) (first:=4) (n:=p.d.toNat) (by show _<16;omega) (λj hj=>by unfold pkE;rw[if_neg (by omega),if_pos (by omega)];congr 1;omega),
  eC (k:=3) (first:=8) (n:=p.sp.toNat) (by show _<8;omega) (λj hj=>by unfold pkE;rw[if_neg (by omega),if_neg (by omega),if_pos (by omega)];congr 1;omega),
  eC (k:=3) (first:=11) (n:=p.dp.toNat) (by show _<8;omega) (λj hj=>by unfold pkE;rw[if_neg (by omega),if_neg (by omega),if_neg (by omega),if_pos (by omega)];congr 1;omega)]
theorem bq:∀(xs:List Rl) {p:Pk},i8 p=true->j6 xs (pkE p)=O2 xs p.s p.d p.sp p.dp
 | [],_,_=>rfl
 | r::l,p,h=>by
   have e:phi r.a r.b r.c r.d (pkE p)=inR r p.s p.d p.sp p.dp:=by
    rw[t7 _ _ _ _ h];obtain⟨h1,h2,h3,h4⟩:=p9 h;unfold inR inB p7;rw[decide_eq_true h1.1,decide_eq_true h2.1,decide_eq_true h3.1,decide_eq_true h4.1];simp[Bool.and_assoc]
   rw[j6,O2,e,bq l h]
theorem aj(φ:Env->Bool)(i:Nat):∀(k:Nat) (x y:Env),(∀v,v<i\/i+k<=v->y v=x v)->φ y=true->anF φ i k x=true
 | 0,x,y,h,hy=>by
   have:y=x:=funext λv=>h v (by omega);rw[<- this];exact hy
 | k+1,x,y,h,hy=>by
   have ih:=aj φ i k (setE x (i+k) (y (i+k))) y (λv hv=>by
    by_cases e:v=i+k
    ·rw[e,iK]
    ·rw[aE _ _ e];exact h v (by omega)) hy
   show(anF φ i k (setE x (i+k) false)||anF φ i k (setE x (i+k) true))=true;rw[Bool.or_eq_true];cases hb:y (i+k)
   ·rw[hb]at ih;exact Or.inl ih
   ·rw[hb]at ih;exact Or.inr ih
theorem co(φ:Env->Bool)(p:Pk):flF φ (pkE p)=φ (pkE (flipP p)):=by
 show φ (swE (swE (swE (swE (swE (swE (swE (pkE p) 10 13) 9 12) 8 11) 3 7) 2 6) 1 5) 0 4)=_
 congr 1
 funext v
 match v with
 | 0=>rfl
 | 1=>rfl
 | 2=>rfl
 | 3=>rfl
 | 4=>rfl
 | 5=>rfl
 | 6=>rfl
 | 7=>rfl
 | 8=>rfl
 | 9=>rfl
 | 10=>rfl
 | 11=>rfl
 | 12=>rfl
 | 13=>rfl
 | n+14=>simp[swE,pkE,show ¬n+14<4 by omega,show ¬n+14<8 by omega,show ¬n+14<11 by omega,show ¬n+14<14 by omega]
theorem gn(s s' d sp dp:Int)(v:Nat)(h:v<0\/0+4<=v):pkE ⟨s,d,sp,dp⟩ v=pkE ⟨s',d,sp,dp⟩ v:=by
 simp[pkE,show ¬v<4 by omega]
theorem dm(s d d' sp dp:Int)(v:Nat)(h:v<4\/4+4<=v):pkE ⟨s,d,sp,dp⟩ v=pkE ⟨s,d',sp,dp⟩ v:=by
 rcases h with h|h
 ·simp[pkE,h]
 ·simp[pkE,show ¬v<4 by omega,show ¬v<8 by omega]
theorem iC(s d sp sp' dp:Int)(v:Nat)(h:v<8\/8+3<=v):pkE ⟨s,d,sp,dp⟩ v=pkE ⟨s,d,sp',dp⟩ v:=by
 rcases h with h|h
 ·simp[pkE,h]
 ·simp[pkE,show ¬v<4 by omega,show ¬v<8 by omega,show ¬v<11 by omega]
theorem go(s d sp dp dp':Int)(v:Nat)(h:v<11\/11+3<=v):pkE ⟨s,d,sp,dp⟩ v=pkE ⟨s,d,sp,dp'⟩ v:=by
 rcases h with h|h
 ·simp[pkE,h]
 ·simp[pkE,show ¬v<4 by omega,show ¬v<8 by omega,show ¬v<11 by omega,show ¬v<14 by omega]
def L14(φ:Env->Bool):Prop:=∀x y:Env,(∀i,i<14->x i=y i)->φ x=φ y
section
variable {φ ψ φ0 φ1 φ2 φ3:Env->Bool}
theorem L14.phi(a b c d:Nat):L14 (phi a b c d):=λx y h=>by
 unfold Go.Proofs.YtppbfikimalojaaGreat.phi;rw[aR 4 a 0 x y (λi h1 h2=>h i (by omega)),aR 4 b 4 x y (λi h1 h2=>h i (by omega)),aR 3 c 8 x y (λi h1 h2=>h i (by omega)),aR 3 d 11 x y (λi h1 h2=>h i (by omega))]
theorem L14.lets(xs:List Rl):L14 (j6 xs):=iB xs
theorem L14.and(h:L14 φ)(g:L14 ψ):L14 (λx=>φ x&&ψ x):=λx y e=>by
 show(φ x&&ψ x)=(φ y&&ψ y);rw[h x y e,g x y e]
theorem L14.or(h:L14 φ)(g:L14 ψ):L14 (λx=>φ x||ψ x):=λx y e=>by
 show(φ x||ψ x)=(φ y||ψ y);rw[h x y e,g x y e]
theorem L14.an(h:L14 φ)(i:Nat):∀k,L14 (anF φ i k)
 | 0=>h
 | k+1=>λx y e=>by
   have g:∀b,∀j,j<14->setE x (i+k) b j=setE y (i+k) b j:=λb j hj=>by
    unfold setE
    split
    ·rfl
    ·exact e j hj
   show(anF φ i k (setE x (i+k) false)||anF φ i k (setE x (i+k) true))=(anF φ i k (setE y (i+k) false)||anF φ i k (setE y (i+k) true));rw[h.an i k _ _ (g false),h.an i k _ _ (g true)]
theorem L14.ex(h:L14 φ)(i j:Nat):∀k,i+k<=14->j+k<=14->L14 (exF φ i j k)
 | 0,_,_=>h
 | k+1,hi,hj=>λx y e=>h.ex i j k (by omega) (by omega) _ _ (λv hv=>by
   unfold swE
   split
   ·exact e _ (by omega)
   split
   ·exact e _ (by omega)
   ·exact e v hv)
theorem L14.fl(h:L14 φ):L14 (flF φ):=(h.ex 0 4 4 (by omega) (by omega)).ex 8 11 3 (by omega) (by omega)
theorem L14.send(h0:L14 φ0)(h1:L14 φ1)(h2:L14 φ2)(h3:L14 φ3)(d:Dv)(pt:Int):L14 (C6 d pt φ0 φ1 φ2 φ3):=by
 have hf:L14 (λ_=>false):=λ_ _ _=>rfl;unfold C6
 split
 ·exact(((((hf.or h0).or h1).or h2).or h3).and (L14.phi _ _ _ _)).and (L14.lets _)
 split
 ·split
  ·exact h0.and (L14.lets _)
  ·exact h1.and (h0.and (L14.lets _)).fl
 split
 ·split
  ·exact((h0.an 8 3).an 0 4).and (L14.phi _ _ _ _)
  ·exact(((h1.and (L14.phi _ _ _ _)).an 11 3).an 4 4).and ((h0.an 11 3).an 4 4).fl
 split
 ·split
  ·exact(h0.and (L14.phi _ _ _ _)).or ((((h0.and (L14.phi _ _ _ _)).an 4 4)).and (L14.phi _ _ _ _))
  ·exact h1.or (((h1.and ((L14.phi _ _ _ _).and ((h0.and (L14.phi _ _ _ _)).an 4 4).fl)).an 0 4).and (L14.phi _ _ _ _))
 ·exact hf
end
section
variable {ds:List Dv}{ls:List Lk}{K:Nat}
theorem L14.set:∀k a b,L14 (g9 ds ls k a b)
 | 0,a,b=>λx y e=>Bool.eq_iff_iff.2 (by
   rw[em,em];constructor
   ·rintro⟨i,d,h1,h2,h3,h4,h5⟩;exact⟨i,d,h1,h2,h3,h4,by rw[<- L14.phi _ _ _ _ x y e];exact h5⟩
   ·rintro⟨i,d,h1,h2,h3,h4,h5⟩;exact⟨i,d,h1,h2,h3,h4,by rw[L14.phi _ _ _ _ x y e];exact h5⟩)
 | k+1,a,b=>λx y e=>Bool.eq_iff_iff.2 (by
   have S:∀d pt i,C6 d pt (g9 ds ls k i 0) (g9 ds ls k i 1) (g9 ds ls k i 2) (g9 ds ls k i 3) x=C6 d pt (g9 ds ls k i 0) (g9 ds ls k i 1) (g9 ds ls k i 2) (g9 ds ls k i 3) y:=λd pt i=>L14.send (L14.set k i 0) (L14.set k i 1) (L14.set k i 2) (L14.set k i 3) d pt x y e;rw[aQ,aQ,L14.set k a b x y e];refine or_congr Iff.rfl ⟨?_,?_⟩
   ·rintro⟨i,q,d,h1,h2,h3,h4,h5,h6⟩;exact⟨i,q,d,h1,h2,h3,h4,h5,by rw[<- S];exact h6⟩
   ·rintro⟨i,q,d,h1,h2,h3,h4,h5,h6⟩;exact⟨i,q,d,h1,h2,h3,h4,h5,by rw[S];exact h6⟩)
theorem L14.at(p q:Int):L14 (atF ds ls K p q):=by
 unfold atF
 split
 ·exact L14.set _ _ _
 ·exact λ_ _ _=>rfl
end
theorem mS{p:Pk}(h:i8 p=true)(v:Nat)(hv:v<14):envOf 14 (dL p.s p.d p.sp p.dp) v=pkE p v:=by
 obtain⟨h1,h2,h3,h4⟩:=p9 h;generalize hc:dL p.s p.d p.sp p.dp=c;have hc':(c:Int)=p.s*1024+p.d*64+p.sp*8+p.dp:=by
  rw[<- hc];unfold dL;omega
 have e1:val 4 0 (envOf 14 c)=p.s.toNat:=by rw[ez 14 c 4 0 (by omega)];show c / 1024 % 16=_;omega
 have e2:val 4 4 (envOf 14 c)=p.d.toNat:=by rw[ez 14 c 4 4 (by omega)];show c / 64 % 16=_;omega
 have e3:val 3 8 (envOf 14 c)=p.sp.toNat:=by rw[ez 14 c 3 8 (by omega)];show c / 8 % 8=_;omega
 have e4:val 3 11 (envOf 14 c)=p.dp.toNat:=by rw[ez 14 c 3 11 (by omega)];show c / 1 % 8=_;omega
 unfold pkE;by_cases v4:v<4
 ·rw[if_pos v4,<- e1];have:=cm 4 0 (envOf 14 c) v v4;rw[Nat.zero_add]at this;exact this.symm
 rw[if_neg v4];by_cases v8:v<8
 ·rw[if_pos v8,<- e2];have:=cm 4 4 (envOf 14 c) (v-4) (by omega);rw[show 4+(v-4)=v by omega,show 4-1-(v-4)=7-v by omega]at this;exact this.symm
 rw[if_neg v8];by_cases v11:v<11
 ·rw[if_pos v11,<- e3];have:=cm 3 8 (envOf 14 c) (v-8) (by omega);rw[show 8+(v-8)=v by omega,show 3-1-(v-8)=10-v by omega]at this;exact this.symm
 rw[if_neg v11,if_pos hv,<- e4];have:=cm 3 11 (envOf 14 c) (v-11) (by omega);rw[show 11+(v-11)=v by omega,show 3-1-(v-11)=13-v by omega]at this;exact this.symm
theorem ak{n:Int}(h:0<=n/\n<16):Nat.testBit 65535 n.toNat=true:=by
 have:∀m,m<16->Nat.testBit 65535 m=true:=by decide
 exact this _ (by omega)
theorem E7{n:Int}(h:0<=n/\n<8):Nat.testBit 255 n.toNat=true:=by
 have:∀m,m<8->Nat.testBit 255 m=true:=by decide
 exact this _ (by omega)
theorem eD:∀(l:List Int) (z i:Nat),(setL l z).testBit i=true ↔ z.testBit i=true\/∃x∈l,x.toNat=i
 | [],z,i=>by simp[setL]
 | x::l,z,i=>by
   rw[setL,eD l,Nat.testBit_or,Nat.testBit_two_pow];simp;constructor
   ·rintro((h|h)|h)
    ·exact Or.inl h
    ·exact Or.inr (Or.inl h)
    ·exact Or.inr (Or.inr h)
   ·rintro(h|h|h)
    ·exact Or.inl (Or.inl h)
    ·exact Or.inl (Or.inr h)
    ·exact Or.inr h
theorem gq{l:List Int}{x:Int}(h:x∈l):(setL l 0).testBit x.toNat=true:=(eD l 0 _).2 (Or.inr ⟨x,h,rfl⟩)
theorem br(x:Int):(setL [x] 0).testBit x.toNat=true:=gq (by simp)
theorem mT{x y:Int}(hx:0<=x/\x<16)(hy:0<=y/\y<16)(h:¬y=x):(bZ (setL [x] 0)).testBit y.toNat=true:=by
 rw[(gg _).2.2 _ (by omega)];cases hb:(setL [x] 0).testBit y.toNat
 ·rfl
 ·rw[eD]at hb;simp at hb;omega
theorem iD{d:Dv}{i:Int}{I:bm}{F:Nat->Env->Bool}(hI:∀(q:Nat) (p:Pk),q<4->I (i,(q:Int)) p->F q (pkE p)=true)(hd:devC d=0){o:Int}{p:Pk}(hp:i8 p=true)(hs:o4 d i I o p):C6 d o (F 0) (F 1) (F 2) (F 3) (pkE p)=true:=by
 obtain⟨_,ha,hbs,_,_⟩:=bi hd;obtain⟨h1,h2,h3,h4⟩:=p9 hp;unfold o4 at hs;unfold C6;by_cases k2:d.kind=2
 ·rw[if_pos k2]at hs ⊢;obtain⟨q,q0,q4,hq,hl,ho,hn⟩:=hs;have e:F q.toNat (pkE p)=true:=hI q.toNat p (by omega) (by rw[show((q.toNat:Nat):Int)=q by omega];exact hq);have e1:orP (F 0) (F 1) (F 2) (F 3) 4 (pkE p)=true:=by
   show((((false||F 0 (pkE p))||F 1 (pkE p))||F 2 (pkE p))||F 3 (pkE p))=true;have hq:q.toNat=0\/q.toNat=1\/q.toNat=2\/q.toNat=3:=by omega
   rcases hq with h|h|h|h <;> rw[h]at e <;> simp[e]
  have e2:(U6 (bY d) o 16).testBit p.d.toNat=true:=by
   rw[ed,decide_eq_true (show p.d.toNat<16 by omega)];unfold E6;rw[show((p.d.toNat:Nat):Int)=p.d by omega];show(true&&(outB (routesOf d) p.d&&(outN (routesOf d) p.d == o)))=true;rw[ho,hn];simp
  have e3:j6 (O6 d) (pkE p)=true:=by rw[bq _ hp];exact hl
  show(((orP (F 0) (F 1) (F 2) (F 3) 4 (pkE p))&&(phi 65535 (U6 (bY d) o 16) 255 255 (pkE p)))&&j6 (O6 d) (pkE p))=true;rw[e1,e3,t7 _ _ _ _ hp,ak h1,e2,E7 h3,E7 h4];rfl
 rw[if_neg k2]at hs ⊢;by_cases k3:d.kind=3
 ·rw[if_pos k3]at hs ⊢;by_cases o1:o=1
  ·rw[if_pos o1]at hs ⊢;show(F 0 (pkE p)&&j6 (O6 d) (pkE p))=true;rw[hI 0 p (by omega) hs.1,bq _ hp];exact hs.2
  ·rw[if_neg o1]at hs ⊢;obtain⟨_,g1,g2,g3⟩:=hs;show(F 1 (pkE p)&&flF (λx=>F 0 x&&j6 (O6 d) x) (pkE p))=true;rw[co,hI 1 p (by omega) g1];show(true&&(F 0 (pkE (flipP p))&&j6 (O6 d) (pkE (flipP p))))=true;rw[hI 0 _ (by omega) g2,bq _ (p:=flipP p) (n9 h2 h1 h4 h3)];exact g3
 rw[if_neg k3]at hs ⊢;by_cases k4:d.kind=4
 ·rw[if_pos k4]at hs ⊢;by_cases o1:o=1
  ·rw[if_pos o1]at hs ⊢;obtain⟨g1,g2,s,sp,g3⟩:=hs;have gp:d.pool.testBit p.sp.toNat=true:=by
    unfold poolB at g2;simp only[Bool.and_eq_true]at g2;exact g2.2
   show(anF (anF (F 0) 8 3) 0 4 (pkE p)&&phi (setL [d.addr] 0) 65535 d.pool 255 (pkE p))=true;rw[aj _ 0 4 (pkE p) (pkE ⟨s,p.d,p.sp,p.dp⟩) (gn _ _ _ _ _) (aj _ 8 3 _ (pkE ⟨s,p.d,sp,p.dp⟩) (iC _ _ _ _ _) (hI 0 _ (by omega) g3)),t7 _ _ _ _ hp,g1,br,ak h2,gp,E7 h4];rfl
  ·rw[if_neg o1]at hs ⊢;obtain⟨_,⟨k,g1,g2⟩,x,y,g3⟩:=hs;unfold poolB poB at g1;simp only[Bool.and_eq_true,decide_eq_true_eq]at g1;obtain⟨gk,gp⟩:=g1;show(anF (anF (λx=>F 1 x&&phi 65535 (setL [d.addr] 0) 255 d.pool x) 11 3) 4 4 (pkE p)&&flF (anF (anF (F 0) 11 3) 4 4) (pkE p))=true;rw[co,aj _ 4 4 (pkE p) (pkE ⟨p.s,d.addr,p.sp,p.dp⟩) (dm _ _ _ _ _) (aj _ 11 3 _ (pkE ⟨p.s,d.addr,p.sp,k⟩) (go _ _ _ _ _) (by
    show(F 1 (pkE ⟨p.s,d.addr,p.sp,k⟩)&&phi 65535 (setL [d.addr] 0) 255 d.pool (pkE ⟨p.s,d.addr,p.sp,k⟩))=true;rw[hI 1 _ (by omega) g2,t7 _ _ _ _ (p:=⟨p.s,d.addr,p.sp,k⟩) (n9 h1 ha h3 gk),ak h1,br,E7 h3,gp];rfl)),
    aj _ 4 4 (pkE (flipP p)) (pkE ⟨p.d,x,p.dp,p.sp⟩) (dm _ _ _ _ _) (aj _ 11 3 _ (pkE ⟨p.d,x,p.dp,y⟩) (go _ _ _ _ _) (hI 0 _ (by omega) g3))]
   rfl
 rw[if_neg k4]at hs ⊢;by_cases k5:d.kind=5
 ·rw[if_pos k5]at hs ⊢;by_cases o1:o=1
  ·rw[if_pos o1]at hs ⊢;show((F 0 (pkE p)&&phi 65535 (bZ (setL [d.addr] 0)) 255 255 (pkE p))||(anF (λx=>F 0 x&&phi 65535 (setL [d.addr] 0) 255 255 x) 4 4 (pkE p)&&phi 65535 (setL d.backs 0) 255 255 (pkE p)))=true;rw[Bool.or_eq_true];rcases hs with⟨g1,g2⟩|⟨g1,g2⟩
   ·refine Or.inl ?_;rw[hI 0 _ (by omega) g1,t7 _ _ _ _ hp,ak h1,mT ha h2 g2,E7 h3,E7 h4];rfl
   ·refine Or.inr ?_;rw[t7 _ _ _ _ hp,ak h1,gq g1,E7 h3,E7 h4,aj _ 4 4 (pkE p) (pkE ⟨p.s,d.addr,p.sp,p.dp⟩) (dm _ _ _ _ _) (by
     show(F 0 (pkE ⟨p.s,d.addr,p.sp,p.dp⟩)&&phi 65535 (setL [d.addr] 0) 255 255 (pkE ⟨p.s,d.addr,p.sp,p.dp⟩))=true;rw[hI 0 _ (by omega) g2,t7 _ _ _ _ (p:=⟨p.s,d.addr,p.sp,p.dp⟩) (n9 h1 ha h3 h4),ak h1,br,E7 h3,E7 h4];rfl)]
    rfl
  ·rw[if_neg o1]at hs ⊢;show(F 1 (pkE p)||(anF (λx=>F 1 x&&(phi (setL d.backs 0) 65535 255 255 x&&flF (anF (λx=>F 0 x&&phi 65535 (setL [d.addr] 0) 255 255 x) 4 4) x)) 0 4 (pkE p)&&phi (setL [d.addr] 0) 65535 255 255 (pkE p)))=true;rw[Bool.or_eq_true];rcases hs.2 with g1|⟨g1,b,g2,g3,g4⟩
   ·exact Or.inl (hI 1 _ (by omega) g1)
   ·have hb:=hbs b g2;refine Or.inr ?_;rw[t7 _ _ _ _ hp,g1,br,ak h2,E7 h3,E7 h4,aj _ 0 4 (pkE p) (pkE ⟨b,p.d,p.sp,p.dp⟩) (gn _ _ _ _ _) (by
     show(F 1 (pkE ⟨b,p.d,p.sp,p.dp⟩)&&(phi (setL d.backs 0) 65535 255 255 (pkE ⟨b,p.d,p.sp,p.dp⟩)&&flF (anF (λx=>F 0 x&&phi 65535 (setL [d.addr] 0) 255 255 x) 4 4) (pkE ⟨b,p.d,p.sp,p.dp⟩)))=true;rw[hI 1 _ (by omega) g3,t7 _ _ _ _ (p:=⟨b,p.d,p.sp,p.dp⟩) (n9 hb h2 h3 h4),gq g2,ak h2,E7 h3,E7 h4,co,aj _ 4 4 (pkE (flipP ⟨b,p.d,p.sp,p.dp⟩)) (pkE ⟨p.d,d.addr,p.dp,p.sp⟩) (dm _ _ _ _ _) (by
      show(F 0 (pkE ⟨p.d,d.addr,p.dp,p.sp⟩)&&phi 65535 (setL [d.addr] 0) 255 255 (pkE ⟨p.d,d.addr,p.dp,p.sp⟩))=true;rw[hI 0 _ (by omega) g4,t7 _ _ _ _ (p:=⟨p.d,d.addr,p.dp,p.sp⟩) (n9 h2 ha h4 h3),ak h2,br,E7 h4,E7 h3];rfl)]
     rfl)]
    rfl
 rw[if_neg k5]at hs;exact hs.elim
def l8(ds:List Dv)(ls:List Lk)(K:Nat):bm:=λt p=>atF ds ls K t.1 t.2 (pkE p)=true
theorem aS{ds:List Dv}{ls:List Lk}{K a b:Nat}(ha:a<10)(hb:b<4):atF ds ls K (a:Int) (b:Int)=g9 ds ls K a b:=by
 unfold atF;rw[if_pos (by omega)];rfl
theorem am(φ:Env->Bool)(i:Nat):∀(k:Nat) (x:Env),anF φ i k x=true->∃y:Env,(∀v,v<i\/i+k<=v->y v=x v)/\φ y=true
 | 0,x,h=>⟨x,λ_ _=>rfl,h⟩
 | k+1,x,h=>by
   have h':(anF φ i k (setE x (i+k) false)||anF φ i k (setE x (i+k) true))=true:=h;rw[Bool.or_eq_true]at h';have step:∀b,anF φ i k (setE x (i+k) b)=true->∃y:Env,(∀v,v<i\/i+(k+1)<=v->y v=x v)/\φ y=true:=λb hb=>by
    obtain⟨y,h1,h2⟩:=am φ i k _ hb;refine⟨y,λv hv=>?_,h2⟩;rw[h1 v (by omega),aE _ _ (by omega)]
   rcases h' with h'|h'
   ·exact step false h'
   ·exact step true h'
theorem dq{y:Env}(k first v:Nat)(h:first<=v)(h2:v<first+k):((val k first y:Nat):Int).toNat.testBit (first+k-1-v)=y v:=by
 have:=cm k first y (v-first) (by omega);rw[show first+(v-first)=v by omega,show k-1-(v-first)=first+k-1-v by omega]at this;rw[Int.toNat_natCast];exact this
theorem iE{y:Env}{p:Pk}(h:∀v,v<0\/0+4<=v->y v=pkE p v):∃s:Int,(0<=s/\s<16)/\y=pkE ⟨s,p.d,p.sp,p.dp⟩:=by
 have hl:val 4 0 y<16:=aW 4 0 y;refine⟨(val 4 0 y:Nat),by omega,funext λv=>?_⟩;by_cases hv:v<4
 ·rw[<- dq (y:=y) 4 0 v (by omega) (by omega)];simp[pkE,hv]
 ·rw[h v (by omega)];exact gn _ _ _ _ _ v (by omega)
theorem eE{y:Env}{p:Pk}(h:∀v,v<4\/4+4<=v->y v=pkE p v):∃d:Int,(0<=d/\d<16)/\y=pkE ⟨p.s,d,p.sp,p.dp⟩:=by
 have hl:val 4 4 y<16:=aW 4 4 y;refine⟨(val 4 4 y:Nat),by omega,funext λv=>?_⟩;by_cases hv:v<4\/4+4<=v
 ·rw[h v hv];exact dm _ _ _ _ _ v hv
 ·rw[<- dq (y:=y) 4 4 v (by omega) (by omega)];simp[pkE,show ¬v<4 by omega,show v<8 by omega]
theorem mU{y:Env}{p:Pk}(h:∀v,v<8\/8+3<=v->y v=pkE p v):∃s:Int,(0<=s/\s<8)/\y=pkE ⟨p.s,p.d,s,p.dp⟩:=by
 have hl:val 3 8 y<8:=aW 3 8 y;refine⟨(val 3 8 y:Nat),by omega,funext λv=>?_⟩;by_cases hv:v<8\/8+3<=v
 ·rw[h v hv];exact iC _ _ _ _ _ v hv
 ·rw[<- dq (y:=y) 3 8 v (by omega) (by omega)];simp[pkE,show ¬v<4 by omega,show ¬v<8 by omega,show v<11 by omega]
theorem iF{y:Env}{p:Pk}(h:∀v,v<11\/11+3<=v->y v=pkE p v):∃s:Int,(0<=s/\s<8)/\y=pkE ⟨p.s,p.d,p.sp,s⟩:=by
 have hl:val 3 11 y<8:=aW 3 11 y;refine⟨(val 3 11 y:Nat),by omega,funext λv=>?_⟩;by_cases hv:v<11\/11+3<=v
 ·rw[h v hv];exact go _ _ _ _ _ v hv
 ·rw[<- dq (y:=y) 3 11 v (by omega) (by omega)];simp[pkE,show ¬v<4 by omega,show ¬v<8 by omega,show ¬v<11 by omega,show v<14 by omega]
theorem gt{l:List Int}{x:Int}(hl:∀y∈l,0<=y)(hx:0<=x)(h:(setL l 0).testBit x.toNat=true):x∈l:=by
 rw[eD]at h;rcases h with h|⟨y,hy,e⟩
 ·simp at h
 ·have:=hl y hy;rw[show x=y by omega];exact hy
theorem cu{a x:Int}(ha:0<=a)(hx:0<=x)(h:(setL [a] 0).testBit x.toNat=true):x=a:=by
 have:=gt (l:=[a]) (λy hy=>by simp at hy;omega) hx h;simpa using this
theorem gu{d:Dv}{i:Int}{I:bm}{F:Nat->Env->Bool}(hI:∀(q:Nat) (p:Pk),q<4->i8 p=true->F q (pkE p)=true->I (i,(q:Int)) p)(hd:devC d=0){o:Int}(ho:0<=o/\o<portsV d.kind){p:Pk}(hp:i8 p=true)(hs:C6 d o (F 0) (F 1) (F 2) (F 3) (pkE p)=true):o4 d i I o p:=by
 obtain⟨_,ha,hbs,_,_⟩:=bi hd;obtain⟨h1,h2,h3,h4⟩:=p9 hp;unfold C6 at hs;unfold o4;by_cases k2:d.kind=2
 ·rw[if_pos k2]at hs ⊢;have hs':(((orP (F 0) (F 1) (F 2) (F 3) 4 (pkE p))&&(phi 65535 (U6 (bY d) o 16) 255 255 (pkE p)))&&j6 (O6 d) (pkE p))=true:=hs;rw[t7 _ _ _ _ hp,bq _ hp]at hs';simp only[Bool.and_eq_true]at hs';obtain⟨⟨g1,_,g2,_,_⟩,g3⟩:=hs';have g1':((((false||F 0 (pkE p))||F 1 (pkE p))||F 2 (pkE p))||F 3 (pkE p))=true:=g1;rw[ed]at g2;unfold E6 at g2;rw[show((p.d.toNat:Nat):Int)=p.d by omega]at g2;simp only[Bool.and_eq_true,decide_eq_true_eq,beq_iff_eq]at g2;simp only[Bool.or_eq_true,Bool.false_eq_true,false_or]at g1';obtain⟨q,hq,hF⟩:∃q:Nat,q<4/\F q (pkE p)=true:=by
   rcases g1' with((g|g)|g)|g
   ·exact⟨0,by omega,g⟩
   ·exact⟨1,by omega,g⟩
   ·exact⟨2,by omega,g⟩
   ·exact⟨3,by omega,g⟩
  exact⟨(q:Int),by omega,by omega,hI q p hq hp hF,g3,g2.2.1,g2.2.2⟩
 rw[if_neg k2]at hs ⊢;have ho2:3<=d.kind->d.kind<=5->o<2:=λa b=>by
  have:=ho.2;unfold portsV at this;rw[if_neg (by omega),if_neg k2]at this
  split at this <;> omega
 by_cases k3:d.kind=3
 ·rw[if_pos k3]at hs ⊢;by_cases o1:o=1
  ·rw[if_pos o1]at hs ⊢;have hs':(F 0 (pkE p)&&j6 (O6 d) (pkE p))=true:=hs;rw[bq _ hp,Bool.and_eq_true]at hs';exact⟨hI 0 p (by omega) hp hs'.1,hs'.2⟩
  ·rw[if_neg o1]at hs ⊢;have hs':(F 1 (pkE p)&&flF (λx=>F 0 x&&j6 (O6 d) x) (pkE p))=true:=hs;rw[co,Bool.and_eq_true]at hs';have hf:i8 (flipP p)=true:=n9 h2 h1 h4 h3;have hg:(F 0 (pkE (flipP p))&&j6 (O6 d) (pkE (flipP p)))=true:=hs'.2;rw[bq _ hf,Bool.and_eq_true]at hg;exact⟨by have:=ho2 (by omega) (by omega);omega,hI 1 p (by omega) hp hs'.1,hI 0 _ (by omega) hf hg.1,hg.2⟩
 rw[if_neg k3]at hs ⊢;by_cases k4:d.kind=4
 ·rw[if_pos k4]at hs ⊢;by_cases o1:o=1
  ·rw[if_pos o1]at hs ⊢;have hs':(anF (anF (F 0) 8 3) 0 4 (pkE p)&&phi (setL [d.addr] 0) 65535 d.pool 255 (pkE p))=true:=hs;rw[t7 _ _ _ _ hp]at hs';simp only[Bool.and_eq_true]at hs';obtain⟨g1,g2,_,g3,_⟩:=hs';obtain⟨y,e1,g1⟩:=am _ _ _ _ g1;obtain⟨s,hsb,rfl⟩:=iE e1;obtain⟨y,e1,g1⟩:=am _ _ _ _ g1;obtain⟨sp,hspb,rfl⟩:=mU e1;refine⟨cu ha.1 h1.1 g2,?_,s,sp,hI 0 _ (by omega) (n9 hsb h2 hspb h4) g1⟩;unfold poolB poB;rw[g3];simp;omega
  ·rw[if_neg o1]at hs ⊢;have hs':(anF (anF (λx=>F 1 x&&phi 65535 (setL [d.addr] 0) 255 d.pool x) 11 3) 4 4 (pkE p)&&flF (anF (anF (F 0) 11 3) 4 4) (pkE p))=true:=hs;rw[co,Bool.and_eq_true]at hs';obtain⟨g1,g2⟩:=hs';obtain⟨y,e1,g1⟩:=am _ _ _ _ g1;obtain⟨x,hxb,rfl⟩:=eE e1;obtain⟨y,e1,g1⟩:=am _ _ _ _ g1;obtain⟨k,hkb,rfl⟩:=iF e1;have hk:i8 ⟨p.s,x,p.sp,k⟩=true:=n9 h1 hxb h3 hkb;have g1':(F 1 (pkE ⟨p.s,x,p.sp,k⟩)&&phi 65535 (setL [d.addr] 0) 255 d.pool (pkE ⟨p.s,x,p.sp,k⟩))=true:=g1;rw[t7 _ _ _ _ hk]at g1';simp only[Bool.and_eq_true]at g1';obtain⟨f1,_,f2,_,f3⟩:=g1';obtain rfl:x=d.addr:=cu ha.1 hxb.1 f2;obtain⟨y,e1,g2⟩:=am _ _ _ _ g2;obtain⟨u,hub,rfl⟩:=eE e1;obtain⟨y,e1,g2⟩:=am _ _ _ _ g2;obtain⟨t,htb,rfl⟩:=iF e1;refine⟨by have:=ho2 (by omega) (by omega);omega,⟨k,?_,hI 1 _ (by omega) hk f1⟩,u,t,hI 0 _ (by omega) (n9 h2 hub h4 htb) g2⟩;unfold poolB poB;rw[f3];simp;omega
 rw[if_neg k4]at hs ⊢;by_cases k5:d.kind=5
 ·rw[if_pos k5]at hs ⊢;by_cases o1:o=1
  ·rw[if_pos o1]at hs ⊢;have hs':((F 0 (pkE p)&&phi 65535 (bZ (setL [d.addr] 0)) 255 255 (pkE p))||(anF (λx=>F 0 x&&phi 65535 (setL [d.addr] 0) 255 255 x) 4 4 (pkE p)&&phi 65535 (setL d.backs 0) 255 255 (pkE p)))=true:=hs;rw[t7 _ _ _ _ hp,t7 _ _ _ _ hp]at hs';simp only[Bool.or_eq_true,Bool.and_eq_true]at hs';rcases hs' with⟨g1,_,g2,_,_⟩|⟨g1,_,g2,_,_⟩
   ·refine Or.inl ⟨hI 0 p (by omega) hp g1,λe=>?_⟩;rw[(gg _).2.2 _ (by omega),e,br]at g2;cases g2
   ·obtain⟨y,e1,g1⟩:=am _ _ _ _ g1;obtain⟨x,hxb,rfl⟩:=eE e1;have hk:i8 ⟨p.s,x,p.sp,p.dp⟩=true:=n9 h1 hxb h3 h4;have g1':(F 0 (pkE ⟨p.s,x,p.sp,p.dp⟩)&&phi 65535 (setL [d.addr] 0) 255 255 (pkE ⟨p.s,x,p.sp,p.dp⟩))=true:=g1;rw[t7 _ _ _ _ hk]at g1';simp only[Bool.and_eq_true]at g1';obtain⟨f1,_,f2,_,_⟩:=g1';obtain rfl:x=d.addr:=cu ha.1 hxb.1 f2;exact Or.inr ⟨gt (λy hy=>(hbs y hy).1) h2.1 g2,hI 0 _ (by omega) hk f1⟩
  ·rw[if_neg o1]at hs ⊢;have hs':(F 1 (pkE p)||(anF (λx=>F 1 x&&(phi (setL d.backs 0) 65535 255 255 x&&flF (anF (λx=>F 0 x&&phi 65535 (setL [d.addr] 0) 255 255 x) 4 4) x)) 0 4 (pkE p)&&phi (setL [d.addr] 0) 65535 255 255 (pkE p)))=true:=hs;refine⟨by have:=ho2 (by omega) (by omega);omega,?_⟩;rw[t7 _ _ _ _ hp]at hs';simp only[Bool.or_eq_true,Bool.and_eq_true]at hs';rcases hs' with g|⟨g1,g2,_,_,_⟩
   ·exact Or.inl (hI 1 p (by omega) hp g)
   ·obtain⟨y,e1,g1⟩:=am _ _ _ _ g1;obtain⟨b,hbb,rfl⟩:=iE e1;have hk:i8 ⟨b,p.d,p.sp,p.dp⟩=true:=n9 hbb h2 h3 h4;have g1':(F 1 (pkE ⟨b,p.d,p.sp,p.dp⟩)&&(phi (setL d.backs 0) 65535 255 255 (pkE ⟨b,p.d,p.sp,p.dp⟩)&&flF (anF (λx=>F 0 x&&phi 65535 (setL [d.addr] 0) 255 255 x) 4 4) (pkE ⟨b,p.d,p.sp,p.dp⟩)))=true:=g1;rw[t7 _ _ _ _ hk,co]at g1';simp only[Bool.and_eq_true]at g1';obtain⟨f1,⟨f2,_,_,_⟩,f3⟩:=g1';obtain⟨y,e1,f3⟩:=am _ _ _ _ f3;obtain⟨x,hxb,rfl⟩:=eE e1;have hk2:i8 ⟨p.d,x,p.dp,p.sp⟩=true:=n9 h2 hxb h4 h3;have f3':(F 0 (pkE ⟨p.d,x,p.dp,p.sp⟩)&&phi 65535 (setL [d.addr] 0) 255 255 (pkE ⟨p.d,x,p.dp,p.sp⟩))=true:=f3;rw[t7 _ _ _ _ hk2]at f3';simp only[Bool.and_eq_true]at f3';obtain⟨f4,_,f5,_,_⟩:=f3';obtain rfl:x=d.addr:=cu ha.1 hxb.1 f5;exact Or.inr ⟨cu ha.1 h1.1 g2,b,gt (λy hy=>(hbs y hy).1) hbb.1 f2,hI 1 _ (by omega) hk f1,hI 0 _ (by omega) hk2 f4⟩
 rw[if_neg k5]at hs;cases hs
theorem iG{ds:List Dv}:∀(m k:Nat),ds.length-k<=m->m9 ds k=0->∀j d,k<=j->ds[j]?=some d->C8 ds j d=0
 | 0,k,h,_,j,d,hj,hd=>by
   have:=(List.getElem?_eq_some_iff.1 hd).1;omega
 | m+1,k,h,h0,j,d,hj,hd=>by
   have hjl:=(List.getElem?_eq_some_iff.1 hd).1;have hk:k<ds.length:=by omega
   rw[cX (List.getElem?_eq_getElem hk)]at h0
   split at h0
   ·rename_i hw
    by_cases e:j=k
    ·subst e;rw[List.getElem?_eq_getElem hk,Option.some.injEq]at hd;rw[<- hd];exact hw
    ·exact iG m (k+1) (by omega) h0 j d (by omega) hd
   ·rename_i hw
    exact absurd h0 hw
theorem aD{ds:List Dv}{ls:List Lk}(h:netV ds ls=0):∀d∈ds,devC d=0:=by
 intro d hd;obtain⟨k,hk,e⟩:=List.mem_iff_getElem.1 hd;unfold netV at h
 split at h
 ·simp at h
 ·split at h
  ·rename_i hz
   have:=iG ds.length 0 (by omega) hz k d (Nat.zero_le _) (by rw[List.getElem?_eq_getElem hk,e]);unfold C8 at this
   split at this
   ·split at this
    ·simp at this
    ·exact this
   ·simp at this
  ·rename_i hz
   exact absurd h hz
section
variable {ds:List Dv}{ls:List Lk}{k:Nat}{t:Int × Int}{p:Pk}
theorem gv(hz:netV ds ls=0)(hp:i8 p=true):l8 ds ls 0 t p ↔ ∃(i:Nat) (d:Dv),ds[i]?=some d/\d.kind=1/\peerF ls i 0=some t/\p.s=d.addr:=by
 have h10:=(l7 hz).1;constructor
 ·intro h;have h':atF ds ls 0 t.1 t.2 (pkE p)=true:=h;unfold atF at h'
  split at h'
  ·rename_i hc
   rw[em]at h';obtain⟨i,d,h1,h2,h3,h4,h5⟩:=h';refine⟨i,d,h2,h3,?_,?_⟩
   ·rw[h4];obtain⟨t1,t2⟩:=t;dsimp only at hc ⊢;rw[show((t1.toNat:Nat):Int)=t1 by omega,show((t2.toNat:Nat):Int)=t2 by omega]
   ·rw[t7 _ _ _ _ hp]at h5;simp only[Bool.and_eq_true]at h5;obtain⟨b1,_⟩:=p9 hp;have hd:=(bi (aD hz d (List.mem_of_getElem? h2)));exact cu (by have:=hd.2.1;omega) b1.1 h5.1
  ·cases h'
 ·rintro⟨i,d,hd,hk,hpe,hs⟩;obtain⟨a,b,rfl,ha,hb⟩:=gj hz hpe;have hi:=(List.getElem?_eq_some_iff.1 hd).1;obtain⟨h1,h2,h3,h4⟩:=p9 hp;show atF ds ls 0 (a:Int) (b:Int) (pkE p)=true;rw[aS ha hb,em];refine⟨i,d,hi,hd,hk,hpe,?_⟩;rw[t7 _ _ _ _ hp,hs,br,ak h2,E7 h3,E7 h4];rfl
theorem gw(hz:netV ds ls=0)(hp:i8 p=true):l8 ds ls (k+1) t p ↔ l8 ds ls k t p\/∃(i:Nat) (d:Dv) (o:Int),ds[i]?=some d/\peerF ls i o=some t/\o4 d i (l8 ds ls k) o p:=by
 have h10:=(l7 hz).1;constructor
 ·intro h;have h':atF ds ls (k+1) t.1 t.2 (pkE p)=true:=h;unfold atF at h'
  split at h'
  ·rename_i hc
   rw[aQ]at h';rcases h' with h'|⟨i,q,d,h1,h2,h3,h4,h5,h6⟩
   ·left
    show atF ds ls k t.1 t.2 (pkE p)=true;unfold atF;rw[if_pos hc];exact h'
   ·right
    refine⟨i,d,(q:Int),h3,?_,?_⟩
    ·rw[h5];obtain⟨t1,t2⟩:=t;dsimp only at hc ⊢;rw[show((t1.toNat:Nat):Int)=t1 by omega,show((t2.toNat:Nat):Int)=t2 by omega]
    ·have hi:i<10:=by
      have:=(List.getElem?_eq_some_iff.1 h3).1;omega
     exact gu (i:=(i:Int)) (I:=l8 ds ls k) (F:=g9 ds ls k i) (λq p hq _ h=>by
      show atF ds ls k (i:Int) (q:Int) (pkE p)=true;rw[aS hi hq];exact h) (aD hz d (List.mem_of_getElem? h3)) (by omega) hp h6
  ·cases h'
 ·rintro(h|⟨i,d,o,hd,hpe,hs⟩)
  ·exact kr (Nat.le_succ k) _ _ _ h
  ·obtain⟨a,b,rfl,ha,hb⟩:=gj hz hpe;have hi:=(List.getElem?_eq_some_iff.1 hd).1;obtain⟨l,hl,he⟩:=aN hpe;have hpl:isPl ds (i:Int) o=true:=by
    have hp:=(l7 hz).2.2.2 l hl;rcases ac he with⟨e,_⟩|⟨e,_⟩
    ·have:=hp.1;rw[e.1,e.2]at this;exact this
    ·have:=hp.2;rw[e.1,e.2]at this;exact this
   unfold isPl at hpl;simp only[Bool.and_eq_true,decide_eq_true_eq]at hpl;have hk:k9 ds (i:Int)=d.kind:=by
    unfold k9;simp[hd]
   rw[hk]at hpl;show atF ds ls (k+1) (a:Int) (b:Int) (pkE p)=true;rw[aS ha hb,aQ];refine Or.inr ⟨i,o.toNat,d,Or.inl hi,λh=>h,hd,by omega,?_,?_⟩
   ·rw[show((o.toNat:Nat):Int)=o by omega];exact hpe
   ·rw[show((o.toNat:Nat):Int)=o by omega];exact iD (i:=(i:Int)) (I:=l8 ds ls k) (F:=g9 ds ls k i) (λq p hq h=>by
     have h':atF ds ls k (i:Int) (q:Int) (pkE p)=true:=h;rw[aS (by omega) hq]at h';exact h') (aD hz d (List.mem_of_getElem? hd)) hp hs
end
abbrev Tab:=(Int × Int)->Nat->Int
open Classical in
noncomputable def tabP (T:Tab)(k:Int)(P:(Int × Int)->Nat->Prop):Tab:=λt c=>if T t c<0/\P t c then k+1 else T t c
open Classical in
noncomputable def G0 (bl:(Int × Int)->Option Nat)(T:Tab)(P:(Int × Int)->Nat->Prop):Bool:=decide (∃t c,(bl t).isSome=true/\c<16384/\T t c<0/\P t c)
def i4(P:(Int × Int)->Nat->Prop)(t:Option (Int × Int))(c:Nat):(Int × Int)->Nat->Prop:=λt' c'=>P t' c'\/(t=some t'/\c'=c)
def wasB(T:Tab)(k:Int)(t:Int × Int)(c:Nat):Bool:=decide (0<=T t c)&&decide (T t c<=k)
abbrev d7:=(Int × Int)->Nat->Prop
def pkN(c:Nat):Pk:=⟨((c / 1024:Nat):Int),((c / 64 % 16:Nat):Int),((c / 8 % 8:Nat):Int),((c % 8:Nat):Int)⟩
def codeN(p:Pk):Nat:=(p.s*1024+p.d*64+p.sp*8+p.dp).toNat
theorem pkN_ok{c:Nat}(h:c<16384):i8 (pkN c)=true:=by
 unfold pkN;exact n9 (by dsimp only;omega) (by dsimp only;omega) (by dsimp only;omega) (by dsimp only;omega)
theorem U8(c:Nat):codeN (pkN c)=c:=by
 unfold codeN pkN;dsimp only;omega
theorem J5{p:Pk}(h:i8 p=true):codeN p<16384:=by
 obtain⟨h1,h2,h3,h4⟩:=p9 h;unfold codeN;omega
theorem J8{p:Pk}(h:i8 p=true):pkN (codeN p)=p:=by
 obtain⟨h1,h2,h3,h4⟩:=p9 h;obtain⟨s,d,sp,dp⟩:=p;dsimp only at *;unfold pkN codeN;dsimp only;generalize hc:(s*1024+d*64+sp*8+dp).toNat=c;have hc':(c:Int)=s*1024+d*64+sp*8+dp:=by omega
 have e1:((c / 1024:Nat):Int)=s:=by omega
 have e2:((c / 64 % 16:Nat):Int)=d:=by omega
 have e3:((c / 8 % 8:Nat):Int)=sp:=by omega
 have e4:((c % 8:Nat):Int)=dp:=by omega
 rw[e1,e2,e3,e4]
def bt(T:Tab)(k:Int):bm:=λt p=>i8 p=true/\wasB T k t (codeN p)=true
theorem J9{T:Tab}{k:Int}{t:Int × Int}{c:Nat}(hc:c<16384):bt T k t (pkN c) ↔ wasB T k t c=true:=by
 unfold bt;rw[U8];exact⟨λh=>h.2,λh=>⟨pkN_ok hc,h⟩⟩
section
variable {d:Dv}{i:Int}{ls:List Lk}{T:Tab}{k:Int}
def one2(d:Dv)(i:Int)(ls:List Lk)(T:Tab)(k:Int)(q:Int)(c:Nat):d7:=λt c'=>wasB T k (i,q) c=true/\c'=c/\outB (routesOf d) (pkN c).d=true/\letsD d (pkN c)=true/\peerF ls i (outN (routesOf d) (pkN c).d)=some t
def one3(d:Dv)(i:Int)(ls:List Lk)(T:Tab)(k:Int)(q:Int)(c:Nat):d7:=λt c'=>wasB T k (i,q) c=true/\c'=c/\((q=0/\letsD d (pkN c)=true/\peerF ls i 1=some t)\/(q=1/\(peerF ls i 1).isSome=true/\wasB T k (i,0) (codeN (flipP (pkN c)))=true/\letsD d (flipP (pkN c))=true/\peerF ls i 0=some t))
def one4(d:Dv)(i:Int)(ls:List Lk)(T:Tab)(k:Int)(os:List Pk)(q:Int)(c:Nat):d7:=λt c'=>wasB T k (i,q) c=true/\((q=0/\∃x:Nat,x<8/\poolB d (x:Int)=true/\peerF ls i 1=some t/\c'=codeN ⟨d.addr,(pkN c).d,(x:Int),(pkN c).dp⟩)\/(q=1/\(pkN c).d=d.addr/\poolB d (pkN c).dp=true/\∃o∈os,peerF ls i 0=some t/\c'=codeN ⟨(pkN c).s,o.s,(pkN c).sp,o.sp⟩))
def one5(d:Dv)(i:Int)(ls:List Lk)(T:Tab)(k:Int)(q:Int)(c:Nat):d7:=λt c'=>wasB T k (i,q) c=true /\
 (((q=1\/¬(pkN c).d=d.addr)/\peerF ls i (1-q)=some t/\c'=c) \/
  (q=0/\(pkN c).d=d.addr/\∃b∈d.backs,peerF ls i 1=some t/\c'=codeN ⟨(pkN c).s,b,(pkN c).sp,(pkN c).dp⟩) \/
  (q=1/\(peerF ls i 1).isSome=true/\(pkN c).s∈d.backs/\wasB T k (i,0) (codeN ⟨(pkN c).d,d.addr,(pkN c).dp,(pkN c).sp⟩)=true/\peerF ls i 0=some t/\c'=codeN ⟨d.addr,(pkN c).d,(pkN c).sp,(pkN c).dp⟩))
def dt(i:Int)(T:Tab)(k:Int)(os:List Pk):Prop:=∀s sp:Int,(∃o∈os,o.s=s/\o.sp=sp) ↔ ∃x y,bt T k (i,0) ⟨s,x,sp,y⟩
def S6(d:Dv)(i:Int)(ls:List Lk)(T:Tab)(k:Int):d7:=λt c=>c<16384/\∃o,peerF ls i o=some t/\o4 d i (bt T k) o (pkN c)
def K9(n:Int)(one:Int->Nat->d7):d7:=λt c'=>∃(q:Int) (c:Nat),0<=q/\q<n/\c<16384/\one q c t c'
theorem iH{p:Pk}(h:i8 p=true):i8 (flipP p)=true:=by
 obtain⟨h1,h2,h3,h4⟩:=p9 h;exact n9 h2 h1 h4 h3
theorem dev2(hk:d.kind=2):K9 4 (one2 d i ls T k)=S6 d i ls T k:=by
 funext t c'
 refine propext ⟨?_,?_⟩
 ·rintro⟨q,c,h0,h1,h2,h3,rfl,h4,h5,h6⟩;refine⟨h2,_,h6,?_⟩;unfold o4;rw[if_pos hk];exact⟨q,h0,h1,(J9 h2).2 h3,h5,h4,rfl⟩
 ·rintro⟨hc,o,hp,hs⟩;unfold o4 at hs;rw[if_pos hk]at hs;obtain⟨q,h0,h1,h2,h3,h4,h5⟩:=hs;exact⟨q,c',h0,h1,hc,(J9 hc).1 h2,rfl,h4,h3,by rw[h5];exact hp⟩
theorem dev3(hk:d.kind=3)(hO:∀c,c<16384->wasB T k (i,1) c=true->(peerF ls i 1).isSome=true):K9 2 (one3 d i ls T k)=S6 d i ls T k:=by
 funext t c'
 refine propext ⟨?_,?_⟩
 ·rintro⟨q,c,h0,h1,h2,h3,rfl,h4⟩;rcases h4 with⟨rfl,h4,h5⟩|⟨rfl,h4,h5,h6,h7⟩
  ·refine⟨h2,1,h5,?_⟩;unfold o4;rw[if_neg (by omega),if_pos hk,if_pos rfl];exact⟨(J9 h2).2 h3,h4⟩
  ·refine⟨h2,0,h7,?_⟩;unfold o4;rw[if_neg (by omega),if_pos hk,if_neg (by omega)];exact⟨rfl,(J9 h2).2 h3,⟨iH (pkN_ok h2),h5⟩,h6⟩
 ·rintro⟨hc,o,hp,hs⟩;unfold o4 at hs;rw[if_neg (by omega),if_pos hk]at hs;by_cases ho:o=1
  ·subst ho;rw[if_pos rfl]at hs;exact⟨0,c',by omega,by omega,hc,(J9 hc).1 hs.1,rfl,Or.inl ⟨rfl,hs.2,hp⟩⟩
  ·rw[if_neg ho]at hs;obtain⟨rfl,h1,h2,h3⟩:=hs;have h1':=(J9 hc).1 h1;exact⟨1,c',by omega,by omega,hc,h1',rfl,Or.inr ⟨rfl,hO _ hc h1',h2.2,h3,hp⟩⟩
theorem dev4(hk:d.kind=4)(ha:0<=d.addr/\d.addr<16){os:List Pk}(hos:dt i T k os):K9 2 (one4 d i ls T k os)=S6 d i ls T k:=by
 funext t c'
 refine propext ⟨?_,?_⟩
 ·rintro⟨q,c,h0,h1,h2,h3,h4⟩;obtain⟨b1,b2,b3,b4⟩:=p9 (pkN_ok h2);rcases h4 with⟨rfl,x,hx,h4,h5,rfl⟩|⟨rfl,h4,h5,o,ho,h6,rfl⟩
  ·have hp:i8 ⟨d.addr,(pkN c).d,(x:Int),(pkN c).dp⟩=true:=n9 ha b2 (by dsimp only;omega) b4;refine⟨J5 hp,1,h5,?_⟩;rw[J8 hp];unfold o4;rw[if_neg (by omega),if_neg (by omega),if_pos hk,if_pos rfl];exact⟨rfl,h4,(pkN c).s,(pkN c).sp,(J9 h2).2 h3⟩
  ·obtain⟨x,y,h7⟩:=(hos o.s o.sp).1 ⟨o,ho,rfl,rfl⟩;obtain⟨c1,c2,c3,c4⟩:=p9 h7.1;have hp:i8 ⟨(pkN c).s,o.s,(pkN c).sp,o.sp⟩=true:=n9 b1 c1 b3 c3;refine⟨J5 hp,0,h6,?_⟩;rw[J8 hp];unfold o4;rw[if_neg (by omega),if_neg (by omega),if_pos hk,if_neg (by omega)];refine⟨rfl,⟨(pkN c).dp,h5,?_⟩,x,y,h7⟩;rw[<- h4];exact(J9 h2).2 h3
 ·rintro⟨hc,o,hp,hs⟩;obtain⟨b1,b2,b3,b4⟩:=p9 (pkN_ok hc);unfold o4 at hs;rw[if_neg (by omega),if_neg (by omega),if_pos hk]at hs;by_cases ho:o=1
  ·subst ho;rw[if_pos rfl]at hs;obtain⟨h1,h2,s,sp,h3⟩:=hs;refine⟨0,codeN ⟨s,(pkN c').d,sp,(pkN c').dp⟩,by omega,by omega,J5 h3.1,h3.2,Or.inl ⟨rfl,(pkN c').sp.toNat,by omega,by rw[show(((pkN c').sp.toNat:Nat):Int)=(pkN c').sp by omega];exact h2,hp,?_⟩⟩;rw[J8 h3.1,<- h1,show(((pkN c').sp.toNat:Nat):Int)=(pkN c').sp by omega];exact(U8 c').symm
  ·rw[if_neg ho]at hs;obtain⟨rfl,⟨kk,h1,h2⟩,x,y,h3⟩:=hs;obtain⟨o,ho,e1,e2⟩:=(hos (pkN c').d (pkN c').dp).2 ⟨x,y,h3⟩;refine⟨1,codeN ⟨(pkN c').s,d.addr,(pkN c').sp,kk⟩,by omega,by omega,J5 h2.1,h2.2,Or.inr ⟨rfl,?_,?_,o,ho,hp,?_⟩⟩
   ·rw[J8 h2.1]
   ·rw[J8 h2.1];exact h1
   ·rw[J8 h2.1,e1,e2];exact(U8 c').symm
theorem dev5(hk:d.kind=5)(ha:0<=d.addr/\d.addr<16)(hbs:∀b∈d.backs,0<=b/\b<16)(hO:∀c,c<16384->wasB T k (i,1) c=true->(peerF ls i 1).isSome=true):K9 2 (one5 d i ls T k)=S6 d i ls T k:=by
 funext t c'
 refine propext ⟨?_,?_⟩
 ·rintro⟨q,c,h0,h1,h2,h3,h4⟩;obtain⟨b1,b2,b3,b4⟩:=p9 (pkN_ok h2);rcases h4 with⟨h4,h5,rfl⟩|⟨rfl,h4,b,hb,h5,rfl⟩|⟨rfl,h4,h5,h6,h7,rfl⟩
  ·refine⟨h2,1-q,h5,?_⟩;unfold o4;rw[if_neg (by omega),if_neg (by omega),if_neg (by omega),if_pos hk];by_cases hq:q=0
   ·subst hq;rw[if_pos (by omega)];rcases h4 with h4|h4
    ·omega
    ·exact Or.inl ⟨(J9 h2).2 h3,h4⟩
   ·obtain rfl:q=1:=by omega
    rw[if_neg (by omega)];exact⟨by omega,Or.inl ((J9 h2).2 h3)⟩
  ·have hp:i8 ⟨(pkN c).s,b,(pkN c).sp,(pkN c).dp⟩=true:=n9 b1 (hbs b hb) b3 b4;refine⟨J5 hp,1,h5,?_⟩;rw[J8 hp];unfold o4;rw[if_neg (by omega),if_neg (by omega),if_neg (by omega),if_pos hk,if_pos rfl];refine Or.inr ⟨hb,?_⟩;rw[<- h4];exact(J9 h2).2 h3
  ·have hp:i8 ⟨d.addr,(pkN c).d,(pkN c).sp,(pkN c).dp⟩=true:=n9 ha b2 b3 b4;refine⟨J5 hp,0,h7,?_⟩;rw[J8 hp];unfold o4;rw[if_neg (by omega),if_neg (by omega),if_neg (by omega),if_pos hk,if_neg (by omega)];refine⟨rfl,Or.inr ⟨rfl,(pkN c).s,h5,(J9 h2).2 h3,?_⟩⟩;exact⟨n9 b2 ha b4 b3,h6⟩
 ·rintro⟨hc,o,hp,hs⟩;obtain⟨b1,b2,b3,b4⟩:=p9 (pkN_ok hc);unfold o4 at hs;rw[if_neg (by omega),if_neg (by omega),if_neg (by omega),if_pos hk]at hs;by_cases ho:o=1
  ·subst ho;rw[if_pos rfl]at hs;rcases hs with⟨h1,h2⟩|⟨h1,h2⟩
   ·exact⟨0,c',by omega,by omega,hc,(J9 hc).1 h1,Or.inl ⟨Or.inr h2,hp,rfl⟩⟩
   ·refine⟨0,codeN ⟨(pkN c').s,d.addr,(pkN c').sp,(pkN c').dp⟩,by omega,by omega,J5 h2.1,h2.2,Or.inr (Or.inl ⟨rfl,?_,(pkN c').d,h1,hp,?_⟩)⟩
    ·rw[J8 h2.1]
    ·rw[J8 h2.1];exact(U8 c').symm
  ·rw[if_neg ho]at hs;obtain⟨rfl,h1|⟨h1,b,hb,h2,h3⟩⟩:=hs
   ·exact⟨1,c',by omega,by omega,hc,(J9 hc).1 h1,Or.inl ⟨Or.inl rfl,hp,rfl⟩⟩
   ·refine⟨1,codeN ⟨b,(pkN c').d,(pkN c').sp,(pkN c').dp⟩,by omega,by omega,J5 h2.1,h2.2,Or.inr (Or.inr ⟨rfl,hO _ (J5 h2.1) h2.2,?_,?_,hp,?_⟩)⟩
    ·rw[J8 h2.1];exact hb
    ·rw[J8 h2.1];exact h3.2
    ·rw[J8 h2.1,<- h1];exact(U8 c').symm
theorem mV(hk:¬(d.kind=2\/d.kind=3\/d.kind=4\/d.kind=5)):S6 d i ls T k=λ_ _=>False:=by
 funext t c'
 refine propext ⟨?_,λh=>h.elim⟩;rintro⟨hc,o,hp,hs⟩;unfold o4 at hs;rw[if_neg (by omega),if_neg (by omega),if_neg (by omega),if_neg (by omega)]at hs;exact hs
end
theorem mW:Keyed prog 27:=Keyed.of_law (deep_law_gate (k:=27) laidS (by rw[ic];decide) (by rw[ic];decide) (by kernel_rfl) (by kernel_rfl))
theorem mX(n:Int × Int)(h:N9 n):keyOf prog 27 (cW n)=some (fD 27 (cW n)):=by
 obtain⟨w1,w2⟩:=h;unfold bc at w1 w2;obtain⟨m,hm⟩:=fuelS;refine tJ ?_;unfold keyOf;simp only[underlying27];rw[if_pos (by kernel_rfl),hm];unfold Program.keyLits;simp only[underlying27,Value.cells];rw[if_pos ⟨by kernel_rfl,by kernel_rfl⟩];simp[Program.keyLits,underlying3,w1,w2,cInt]
noncomputable def du:KeyEncW 27 (Int × Int):=⟨cW,N9,λn=>fD 27 (cW n),mW,mX,tI⟩
def bv:Option Nat->Value
 | none=>.slice none 0 0
 | some b=>.slice (some ⟨b,0,none⟩) 16384 16384
def bE:Option Nat->DataW Unit
 | none=>.lit (.int .i64 (-1))
 | some b=>.lit (.int .i64 (b:Int))
def eG:Value->Option (DataW Unit × List MemPlace)
 | .slice none n c=>if n=0/\c=0 then some (bE none,[])else none
 | .slice (some a) n c=>if a=⟨a.block,0,none⟩/\n=16384/\c=16384 then some (bE (some a.block),[])else none
 | _=>none
theorem mY(v:Value)(z:DataW Unit × List MemPlace)(h:eG v=some z):∃x,v=bv x/\z=(bE x,[]):=by
 unfold eG at h
 split at h
 ·split at h
  ·rename_i hc
   obtain⟨rfl,rfl⟩:=hc;cases h;exact⟨none,rfl,rfl⟩
  ·cases h
 ·split at h
  ·rename_i a n c hc
   obtain⟨h1,rfl,rfl⟩:=hc;cases h;refine⟨some a.block,?_,rfl⟩;rw[h1];rfl
  ·cases h
 ·cases h
theorem mZ(x y:Option Nat)(h:bE x=bE y):x=y:=by
 cases x <;> cases y <;> simp[bE]at h ⊢ <;> omega
theorem zeroR(w:World):(zeroValue 50).run prog w=.ok (.slice none 0 0) w:=by kernel_rfl
noncomputable def dw:ElEnc 50 (Option Nat):=⟨bv,eG,bE,λx=>by cases x <;> simp[bv,eG],mY,mZ,none,zeroR⟩
theorem MapAt.look1{k e:TypeId}{α β:Type}{E:KeyEncW k α}{V:ElEnc e β}{w:World}{b n:Nat}{f:α->Option β}(h:MapAt E V w b n f){t:TypeId}(ht:prog.underlying t=some (.map k e)){x:α}(hx:E.ok x) :
  (Instr.lookup t (.map (some b)) (E.enc x) false).run prog w=.ok (V.enc ((f x).getD V.zero)) w:=by
 obtain⟨D,h,r⟩:=h;obtain⟨v,ps,hrun,hv⟩:=h.lookup E.law ht (V.hz w) (V.read V.zero) (E.key x hx);rw[(r x hx).2]at hv;obtain⟨y,rfl,hy⟩:=V.inv _ _ hv;simp only[Prod.mk.injEq]at hy;rw[hrun,V.inj _ _ hy.1]
def RowI(W:World)(b:Nat)(g:Nat->Int):Prop:=∃cs:Array Value,W.heap[b]?=some (.cells cs 3 (0,0))/\cs.size=16384/\∀c,c<16384->cs[c]?=some (.int .i64 (g c))
section
variable {W W':World}{b c:Nat}{g:Nat->Int}
theorem RowI.lt(h:RowI W b g):b<W.heap.size:=(Array.getElem?_eq_some_iff.1 h.choose_spec.1).1
theorem RowI.cell(h:RowI W b g)(hc:c<16384):W.cell? ⟨b,c,none⟩=some (.int .i64 (g c)):=by
 obtain⟨cs,h1,h2,h3⟩:=h;rw[cell_of_row W b c _ _ _ h1,h3 c hc]
theorem RowI.fz(h:RowI W b g)(j:Nat):W.frozen? ⟨b,j,none⟩=false:=by
 obtain⟨cs,h1,h2,h3⟩:=h;simp[World.frozen?,h1]
theorem RowI.same(h:RowI W b g)(e:W'.heap[b]?=W.heap[b]?):RowI W' b g:=by
 obtain⟨cs,h1,h2⟩:=h;exact⟨cs,e.trans h1,h2⟩
theorem RowI.below(h:RowI W b g)(hb:Below W.heap.size W W'):RowI W' b g:=h.same (hb.block _ h.lt)
theorem RowI.set(h:RowI W b g)(hc:c<16384)(x:Int):RowI (W.setCell ⟨b,c,none⟩ (.int .i64 x)) b (λc'=>if c'=c then x else g c'):=by
 obtain⟨cs,h1,h2,h3⟩:=h;refine⟨cs.setIfInBounds c (.int .i64 x),?_,by simpa using h2,λc' hc'=>?_⟩
 ·have:=Bk.setS (j:=c) (show Bk W b cs 3 from h1) (.int .i64 x);exact this
 ·rw[Array.getElem?_setIfInBounds];dsimp only;by_cases e:c=c'
  ·subst e;rw[if_pos rfl,if_pos (by omega),if_pos rfl]
  ·rw[if_neg e,if_neg (λh:c'=c=>e h.symm)];exact h3 c' hc'
theorem RowI.ne{k:Nat}{v:Value}{t:TypeId}(h:RowI W b g)(hb:Bk W k #[v] t):b≠k:=λe=>by
 subst e;obtain⟨cs,h1,h2,_⟩:=h;have:=h1.symm.trans hb;simp only[Option.some.injEq,Obj.cells.injEq]at this;rw[this.1]at h2;simp at h2
theorem RowI.ne2{k:Nat}{u v:Value}{t:TypeId}(h:RowI W b g)(hb:Bk W k #[u,v] t):b≠k:=λe=>by
 subst e;obtain⟨cs,h1,h2,_⟩:=h;have:=h1.symm.trans hb;simp only[Option.some.injEq,Obj.cells.injEq]at this;rw[this.1]at h2;simp at h2
theorem RowI.ne4{k:Nat}{u v x y:Value}{t:TypeId}(h:RowI W b g)(hb:Bk W k #[u,v,x,y] t):b≠k:=λe=>by
 subst e;obtain⟨cs,h1,h2,_⟩:=h;have:=h1.symm.trans hb;simp only[Option.some.injEq,Obj.cells.injEq]at this;rw[this.1]at h2;simp at h2
theorem RowI.map{n:Nat}{k e:TypeId}{α β:Type}{E:KeyEncW k α}{V:ElEnc e β}{f:α->Option β}{M:Nat}(h:RowI W b g)(hm:MapAt E V W M n f):b≠M:=λe=>by
 subst e;obtain⟨cs,h1,_⟩:=h;obtain⟨es,cl,h2⟩:=hm.isMap;rw[h1]at h2;cases h2
end
structure Sx(B0:Nat)(W0:World)(nb sb S M kb mb:Nat)(vd vl:Value)(ds:List Dv)(ls:List Lk)(bl:(Int × Int)->Option Nat)(T:Tab)(k:Int)(P:(Int × Int)->Nat->Prop)(W:World):Prop where
 bel:Below B0 W0 W
 d:Devs B0 W vd ds
 l:Links B0 W vl ls
 n:Bk W nb #[vd,vl] 25
 s:Bk W sb #[.pointer (some ⟨S,0,none⟩)] 39
 S:Bk W S #[.int .i64 0,.map (some M)] 44
 map:MapAt du dw W M 40 (λt=>(bl t).map some)
 row:∀t b,bl t=some b->RowI W b (tabP T k P t)/\B0<=b/\N9 t
 inj:∀t t' b,bl t=some b->bl t'=some b->t=t'
 k:Bk W kb #[.int .i64 k] 3
 m:Bk W mb #[.bool (G0 bl T P)] 4
 lo:B0<=mb
 dom:∀t,isPl ds t.1 t.2=true->∃b,bl t=some b
end Go.Proofs.YtppbfikimalojaaGreat
namespace Go.Proofs.YtppbfikimalojaaGreat
open Tryz
open Go.RowKit
theorem inN(n lo hi:Int)(w:World):Calls prog 8 #[.int .i64 n,.int .i64 lo,.int .i64 hi] w λe w'=>e=.returned (.bool (decide (lo<=n)&&decide (n<=hi)))/\w'=w:=by
 by_cases h:lo<=n
 ·go_enter func8,ntmps8;go_wp2_with fail;go_ret;exact⟨by simp[h],rfl⟩
 ·have h':decide (lo<=n)=false:=by simp;omega
  go_enter func8,ntmps8;go_wp2_with fail;go_ret;exact⟨by simp,rfl⟩
theorem aT(k:Int)(w:World):Calls prog 19 #[.int .i64 k] w λe w'=>e=.returned (.int .i64 (portsV k))/\Below w.heap.size w w':=by
 have IN:Hid (∀w,Calls prog 8 #[.int .i64 k,.int .i64 1,.int .i64 5] w λe w'=>e=.returned (.bool (decide (1<=k)&&decide (k<=5)))/\w'=w):=λw=>inN k 1 5 w;by_cases h:1<=k/\k<=5
 ·rw[show(decide (1<=k)&&decide (k<=5))=true by simp[h]]at IN;have hk:k=1\/k=2\/k=3\/k=4\/k=5:=by omega
  clear h;rcases hk with rfl|rfl|rfl|rfl|rfl
  all_goals
   go_enter func19,ntmps19;go_wp2_with fail;refine(IN.out _).mono ?_;rintro e w1⟨rfl,rfl⟩;go_wp2_with fail;go_ret;exact⟨rfl,Below.alN (Below.refl _ _) _⟩
 ·rw[show(decide (1<=k)&&decide (k<=5))=false by
   rw[Bool.eq_false_iff];simp only[ne_eq,Bool.and_eq_true,decide_eq_true_eq];exact h]at IN
  have e:portsV k=0:=by
   unfold portsV;rw[if_neg (by omega),if_neg (by omega),if_neg (by omega)]
  rw[e];clear h e;go_enter func19,ntmps19;go_wp2_with fail;refine(IN.out _).mono ?_;rintro e w1⟨rfl,rfl⟩;go_wp2_with fail;go_ret;exact⟨rfl,Below.refl _ _⟩
theorem rpeer_any(vd:Value)(A:Option Addr)(n cap:Nat)(ls:List Lk)(d p:Int)(w:World)(hL:Hid (Links w.heap.size w (.slice A n cap) ls)) :
  Calls prog 35 #[.agg #[vd,.slice A n cap],.agg #[.int .i64 d,.int .i64 p]] w λe w'=>e=.returned (.tuple #[E9 (peerF ls d p),.bool (peerF ls d p).isSome])/\Below w.heap.size w w':=by
 obtain⟨rfl,hc,hm⟩:=hL.out.len;unfold maxLen at hm;have D1:=Below.alN (Below.refl w.heap.size w) (.cells #[vd,.slice A ls.length cap] 25);have D2:=Below.alN D1 (.cells #[.int .i64 d,.int .i64 p] 27);have D3:=Below.alN D2 (.cells #[.int .i64 0,.int .i64 0] 27);have B1:=((T7 w vd (.slice A ls.length cap) 25).alloc (.cells #[.int .i64 d,.int .i64 p] 27)).alloc (.cells #[.int .i64 0,.int .i64 0] 27);have B2:=(T7 (w.alloc (.cells #[vd,.slice A ls.length cap] 25)) (.int .i64 d) (.int .i64 p) 27).alloc (.cells #[.int .i64 0,.int .i64 0] 27);have B3:=T7 ((w.alloc (.cells #[vd,.slice A ls.length cap] 25)).alloc (.cells #[.int .i64 d,.int .i64 p] 27)) (.int .i64 0) (.int .i64 0) 27;simp only[World.size_alloc]at B2 B3;go_enter func35,ntmps35;go_wp2_with fail;go_loopw[6] (λi wr=>∃k:Nat,i=.int .i64 (k:Int)/\k<=ls.length/\Below w.heap.size w wr/\Box2 wr w.heap.size vd (.slice A ls.length cap)/\Box2 wr (w.heap.size+1) (.int .i64 d) (.int .i64 p)/\Box2 wr (w.heap.size+1+1) (.int .i64 0) (.int .i64 0)/\Hid (peerF ls d p=peerF (ls.drop k) d p)) (λi _=>ls.length-(intOf i).toNat)
 case atStart=>exact⟨0,rfl,by omega,D3,B1,B2,B3,rfl⟩
 case round =>
  clear B1 B2 B3 D1 D2 D3;obtain⟨k,rfl,hk,D1,B1,B2,B3,hl⟩:=hrel;obtain⟨n1,e0,e1,_⟩:=id B1;by_cases hlt:k<ls.length
  ·obtain⟨l,hlk⟩:∃l,ls[k]?=some l:=⟨_,List.getElem?_eq_getElem hlt⟩;obtain⟨b,o,rfl,hb,c0,c1,c2,c3⟩:=(hL.out.below D1).at hlk;have Hd:Hid (peerF (ls.drop k) d p=(k8 l d p).or (peerF (ls.drop (k+1)) d p)):=kY hlk d p;have D2:=Below.alN D1 (.cells #[.int .i64 l.a,.int .i64 l.p,.int .i64 l.b,.int .i64 l.q] 96);have E1:=B1.alloc (.cells #[.int .i64 l.a,.int .i64 l.p,.int .i64 l.b,.int .i64 l.q] 96);have E2:=B2.alloc (.cells #[.int .i64 l.a,.int .i64 l.p,.int .i64 l.b,.int .i64 l.q] 96);have E3:=B3.alloc (.cells #[.int .i64 l.a,.int .i64 l.p,.int .i64 l.b,.int .i64 l.q] 96);have k1:(0:Int)<=(k:Int):=by omega
   have k2:(k:Int)<(ls.length:Int):=by omega
   have lw:=D1.size;unfold k8 at Hd;clear hlk hL;generalize l.a=la at *;generalize l.p=lp at *;generalize l.b=lb at *;generalize l.q=lq at *;obtain⟨n2,f0,f1,f2,f3⟩:=id E2;obtain⟨n3,g0,g1,g2,g3⟩:=id E3;obtain⟨m2,h0,h1,_⟩:=id B2;cases x0:((la == d)&&(lp == p))
   ·cases x1:((lb == d)&&(lq == p))
    ·have Hn:Hid (peerF ls d p=peerF (ls.drop (k+1)) d p):=by show _=_;rw[hl.out,Hd.out,x0,x1];rfl
     clear hl Hd;cases y0:(la == d)
     ·cases y1:(lb == d)
      ·clear x0 x1;go_wp2_with fail;go_roundw
       case rel=>exact⟨k+1,by go_num,by omega,D2,E1,E2,E3,Hn⟩
       case measure=>simp[intOf];omega
      ·have y2:(lq == p)=false:=by rw[y1]at x1;simpa using x1
       clear x0 x1;go_wp2_with fail;go_roundw
       case rel=>exact⟨k+1,by go_num,by omega,D2,E1,E2,E3,Hn⟩
       case measure=>simp[intOf];omega
     ·have y3:(lp == p)=false:=by rw[y0]at x0;simpa using x0
      cases y1:(lb == d)
      ·clear x0 x1;go_wp2_with fail;go_roundw
       case rel=>exact⟨k+1,by go_num,by omega,D2,E1,E2,E3,Hn⟩
       case measure=>simp[intOf];omega
      ·have y2:(lq == p)=false:=by rw[y1]at x1;simpa using x1
       clear x0 x1;go_wp2_with fail;go_roundw
       case rel=>exact⟨k+1,by go_num,by omega,D2,E1,E2,E3,Hn⟩
       case measure=>simp[intOf];omega
    ·have Hn:Hid (peerF ls d p=some (la,lp)):=by show _=_;rw[hl.out,Hd.out,x0,x1];rfl
     clear hl Hd;obtain⟨y1,y2⟩:(lb == d)=true/\(lq == p)=true:=by simpa using x1
     cases y0:(la == d)
     ·clear x0 x1;go_wp2_with fail;refine bodyPost_ret (v:=.tuple #[.agg #[.int .i64 la,.int .i64 lp],.bool true]) (by simp[results,results35,go_sem,g0,g1]) rfl ⟨by rw[Hn.out];rfl,?_⟩;exact(D2.setCell (by simp;omega) _).setCell (by simp;omega) _
     ·have y3:(lp == p)=false:=by rw[y0]at x0;simpa using x0
      clear x0 x1;go_wp2_with fail;refine bodyPost_ret (v:=.tuple #[.agg #[.int .i64 la,.int .i64 lp],.bool true]) (by simp[results,results35,go_sem,g0,g1]) rfl ⟨by rw[Hn.out];rfl,?_⟩;exact(D2.setCell (by simp;omega) _).setCell (by simp;omega) _
   ·have Hn:Hid (peerF ls d p=some (lb,lq)):=by show _=_;rw[hl.out,Hd.out,x0];rfl
    clear hl Hd;obtain⟨y1,y2⟩:(la == d)=true/\(lp == p)=true:=by simpa using x0
    clear x0;go_wp2_with fail;refine bodyPost_ret (v:=.tuple #[.agg #[.int .i64 lb,.int .i64 lq],.bool true]) (by simp[results,results35,go_sem,g0,g1]) rfl ⟨by rw[Hn.out];rfl,?_⟩;exact(D2.setCell (by simp;omega) _).setCell (by simp;omega) _
  ·have Hn:Hid (peerF ls d p=none):=by show _=_;rw[hl.out,List.drop_eq_nil_of_le (by omega)];rfl
   obtain⟨n3,g0,g1,g2,g3⟩:=id B3;go_wp2_with fail;refine bodyPost_ret (v:=.tuple #[.agg #[.int .i64 0,.int .i64 0],.bool false]) (by simp[results,results35,go_sem,g0,g1]) rfl ⟨by rw[Hn.out];rfl,?_⟩;exact(D1.setCell (by simp;omega) _).setCell (by simp;omega) _
theorem iI(n:Int)(w:World):Calls prog 8 #[.int .i64 n,.int .i64 0,.int .i64 15] w λe w'=>e=.returned (.bool (decide (0<=n)&&decide (n<=15)))/\w'=w:=by
 by_cases h0:0<=n
 ·have t:decide (0<=n)=true:=by simp[h0]
  go_enter func8,ntmps8;go_wp2_with fail;go_ret;exact⟨by simp[h0],rfl⟩
 ·have t:decide (0<=n)=false:=by simp;omega
  go_enter func8,ntmps8;go_wp2_with fail;go_ret;exact⟨by simp,rfl⟩
theorem nf(b:Nat)(n:Nat)(w:World)(hn:n<16) :
  Calls prog 77 #[.int .i64 (b:Int),.int .i64 (n:Int)] w λe w'=>e=.returned (.bool (b.testBit n))/\w'=w:=by
 have t:(decide ((0:Int)<=(n:Int))&&decide ((n:Int)<=15))=true:=by simp;omega
 have he:Hid ((((b:Int) / 2 ^ n).tmod 2 == 1)=b.testBit n):=by
  show _=_;rw[Nat.testBit,Nat.one_and_eq_mod_two,show((b:Int) / 2 ^ n)=((b >>> n:Nat):Int) by rw[Nat.shiftRight_eq_div_pow];simp];have e:(((b >>> n:Nat):Int).tmod 2)=(((b >>> n) % 2:Nat):Int):=rfl;rw[e];have:(b >>> n) % 2=0\/(b >>> n) % 2=1:=by omega
  rcases this with h|h <;> rw[h] <;> rfl
 go_enter func77,ntmps77;go_wp2_with (go_at_call 8;refine(iI _ _).mono ?_;rintro e w'⟨rfl,rfl⟩;rw[t]);go_ret;refine⟨?_,rfl⟩;rw[<- he.out];simp
theorem rhas_int(b:Nat)(n:Int)(w:World)(h1:b<65536) :
  Calls prog 77 #[.int .i64 (b:Int),.int .i64 n] w λe w'=>e=.returned (.bool (p7 b n))/\w'=w:=by
 by_cases hn:0<=n/\n<=15
 ·obtain⟨k,rfl⟩:∃k:Nat,n=k:=⟨n.toNat,by omega⟩;have e:p7 b (k:Int)=b.testBit k:=by simp[p7]
  rw[e];exact nf b k w (by omega)
 ·have t:(decide ((0:Int)<=n)&&decide (n<=15))=false:=by
   by_cases h:0<=n
   ·simp;omega
   ·simp;omega
  have e:p7 b n=false:=by
   unfold p7;by_cases h:0<=n
   ·rw[Nat.testBit_lt_two_pow (Nat.lt_of_lt_of_le h1 (Nat.pow_le_pow_right (n:=2) (by omega) (show 16<=n.toNat by omega)))];simp
   ·simp;omega
  rw[e];clear hn e;go_enter func77,ntmps77;go_wp2_with (go_at_call 8;refine(iI _ _).mono ?_;rintro e w'⟨rfl,rfl⟩;rw[t]);go_ret;exact⟨rfl,rfl⟩
theorem rpacket_any(c:Nat)(w:World)(hc:c<16384) :
  Calls prog 21 #[.int .i64 (c:Int)] w λe w'=>e=.returned (pk ((c / 1024:Nat):Int) ((c / 64 % 16:Nat):Int) ((c / 8 % 8:Nat):Int) ((c % 8:Nat):Int))/\Below w.heap.size w w':=by
 go_enter func21,ntmps21;go_wp2_with fail;exact bodyPost_ret (v:=pk ((c / 1024:Nat):Int) ((c / 64 % 16:Nat):Int) ((c / 8 % 8:Nat):Int) ((c % 8:Nat):Int)) (by simp[results,results21,go_sem]) rfl ⟨rfl,by go_grown⟩
theorem ng(a b c d:Nat)(p q r s:Int)(w:World)(x0 x1 x2 x3:Bool)(ha:a<65536)(hb:b<65536)(hc:c<256)(hd:d<256)
  (k0:Hid (∀w,Calls prog 77 #[.int .i64 (a:Int),.int .i64 p] w λe w'=>e=.returned (.bool x0)/\w'=w))
  (k1:Hid (∀w,Calls prog 77 #[.int .i64 (b:Int),.int .i64 q] w λe w'=>e=.returned (.bool x1)/\w'=w))
  (k2:Hid (∀w,Calls prog 77 #[.int .i64 (c:Int),.int .i64 r] w λe w'=>e=.returned (.bool x2)/\w'=w))
  (k3:Hid (∀w,Calls prog 77 #[.int .i64 (d:Int),.int .i64 s] w λe w'=>e=.returned (.bool x3)/\w'=w)) :
  Calls prog 48 #[mt a b c d,pk p q r s] w λe w'=>e=.returned (.bool (x0&&x1&&x2&&x3))/\Below w.heap.size w w':=by
 cases x0
 ·go_enter func48,ntmps48;go_wp2_with fail;refine(k0.out _).mono ?_;rintro e w1⟨rfl,rfl⟩;go_wp2_with fail;go_ret;exact⟨by simp,by go_grown⟩
 cases x1
 ·go_enter func48,ntmps48;go_wp2_with fail;refine(k0.out _).mono ?_;rintro e w1⟨rfl,rfl⟩;go_wp2_with fail;refine(k1.out _).mono ?_;rintro e w1⟨rfl,rfl⟩;go_wp2_with fail;go_ret;exact⟨by simp,by go_grown⟩
 cases x2
 ·go_enter func48,ntmps48;go_wp2_with fail;refine(k0.out _).mono ?_;rintro e w1⟨rfl,rfl⟩;go_wp2_with fail;refine(k1.out _).mono ?_;rintro e w1⟨rfl,rfl⟩;go_wp2_with fail;refine(k2.out _).mono ?_;rintro e w1⟨rfl,rfl⟩;go_wp2_with fail;go_ret;exact⟨by simp,by go_grown⟩
 ·go_enter func48,ntmps48;go_wp2_with fail;refine(k0.out _).mono ?_;rintro e w1⟨rfl,rfl⟩;go_wp2_with fail;refine(k1.out _).mono ?_;rintro e w1⟨rfl,rfl⟩;go_wp2_with fail;refine(k2.out _).mono ?_;rintro e w1⟨rfl,rfl⟩;go_wp2_with fail;refine(k3.out _).mono ?_;rintro e w1⟨rfl,rfl⟩;go_wp2_with fail;go_ret;exact⟨by simp,by go_grown⟩
theorem rHas_in(a b c d:Nat)(p q r s:Int)(w:World)(ha:a<65536)(hb:b<65536)(hc:c<256)(hd:d<256) :
  Calls prog 48 #[mt a b c d,pk p q r s] w λe w'=>e=.returned (.bool (inB a b c d p q r s))/\Below w.heap.size w w' :=
 ng a b c d p q r s w _ _ _ _ ha hb hc hd (λw=>rhas_int a p w ha) (λw=>rhas_int b q w hb) (λw=>rhas_int c r w (by omega)) (λw=>rhas_int d s w (by omega))
theorem ni(b o cap:Nat)(xs:List Rl)(p q s t:Int)(w:World)(hb:b<w.heap.size)(hn:xs.length<=cap)(hcap:cap<=maxLen)(hr:RAt w b o xs) :
  Calls prog 75 #[.slice (some ⟨b,o,none⟩) xs.length cap,pk p q s t] w λe w'=>e=.returned (.bool (O2 xs p q s t))/\Below w.heap.size w w':=by
 unfold maxLen at hcap;have D0:=Below.alloc' (Below.refl w.heap.size w) (.cells #[.int .i64 p,.int .i64 q,.int .i64 s,.int .i64 t] 29);have F0:=lD w (.int .i64 p) (.int .i64 q) (.int .i64 s) (.int .i64 t) 29;go_enter func75,ntmps75;go_wp2_with fail;go_loopw[5] (λi wr=>∃k:Nat,i=.int .i64 (k:Int)/\k<=xs.length/\Below w.heap.size w wr/\cZ wr w.heap.size (.int .i64 p) (.int .i64 q) (.int .i64 s) (.int .i64 t)/\O2 xs p q s t=O2 (xs.drop k) p q s t) (λi _=>xs.length-(intOf i).toNat)
 case atStart=>exact⟨0,rfl,by omega,D0,F0,rfl⟩
 case round =>
  obtain⟨k,rfl,hk,D1,F1,hl⟩:=hrel;have Hl:Hid (O2 xs p q s t=O2 (xs.drop k) p q s t):=hl;clear hl;by_cases hlt:k<xs.length
  ·obtain⟨r,hxk⟩:∃r,xs[k]?=some r:=⟨_,List.getElem?_eq_getElem hlt⟩;have RA:=hr.below D1 hb;obtain⟨c0,c1,c2,c3,c4⟩:=RA.at hxk;have Hd:Hid (O2 (xs.drop k) p q s t=if inR r p q s t then r.ok else O2 (xs.drop (k+1)) p q s t):=ux hxk p q s t;have IN:Hid (∀w',Below wr.heap.size wr w'->Calls prog 48 #[mt r.a r.b r.c r.d,pk p q s t] w' λe w''=>e=.returned (.bool (inR r p q s t))/\Hid (Below w.heap.size w w'')/\Hid (cZ w'' w.heap.size (.int .i64 p) (.int .i64 q) (.int .i64 s) (.int .i64 t))/\w''.cell? ⟨b,o+k*5,none⟩=some (.bool r.ok)/\w''.cell? ⟨b,o+k*5+1,none⟩=some (.int .u16 (r.a:Int))/\w''.cell? ⟨b,o+k*5+2,none⟩=some (.int .u16 (r.b:Int))/\w''.cell? ⟨b,o+k*5+3,none⟩=some (.int .u8 (r.c:Int))/\w''.cell? ⟨b,o+k*5+4,none⟩=some (.int .u8 (r.d:Int))/\w''.cell? ⟨w.heap.size,0,none⟩=some (.int .i64 p)/\w''.cell? ⟨w.heap.size,1,none⟩=some (.int .i64 q)/\w''.cell? ⟨w.heap.size,2,none⟩=some (.int .i64 s)/\w''.cell? ⟨w.heap.size,3,none⟩=some (.int .i64 t)):=λw' hw' =>
    (rHas_in r.a r.b r.c r.d p q s t w' r.ha r.hb r.hc r.hd).mono λe w'' ⟨h1,h2⟩=>by
      have hB:=hw'.trans (h2.mono hw'.size);have F2:=lC hB F1;have hb':b<wr.heap.size:=Nat.lt_of_lt_of_le hb D1.size;obtain⟨y0,y1,y2,y3,y4⟩:=(RA.below hB hb').at hxk;exact⟨h1,g8 hB D1,F2,y0,y1,y2,y3,y4,F2.2.1,F2.2.2.1,F2.2.2.2.1,F2.2.2.2.2⟩
   obtain⟨l0,g0,g1,g2,g3⟩:=id F1;have lw:=D1.size;have R0:Below wr.heap.size wr wr.drew:=(Below.refl _ _).drew;have k1:(0:Int)<=(k:Int):=by omega
   have k2:(k:Int)<(xs.length:Int):=by omega
   clear hr hxk RA;generalize inR r p q s t=v at *;generalize r.ok=ok at *;generalize r.a=ra at *;generalize r.b=rb at *;generalize r.c=rc at *;generalize r.d=rd at *;go_wp2_with fail;go_region_held3 (λw'=>w'.cell? ⟨b,o+k*5,none⟩=some (.bool ok)/\w'.cell? ⟨b,o+k*5+1,none⟩=some (.int .u16 (ra:Int))/\w'.cell? ⟨b,o+k*5+2,none⟩=some (.int .u16 (rb:Int))/\w'.cell? ⟨b,o+k*5+3,none⟩=some (.int .u8 (rc:Int))/\w'.cell? ⟨b,o+k*5+4,none⟩=some (.int .u8 (rd:Int))/\w'.cell? ⟨w.heap.size,0,none⟩=some (.int .i64 p)/\w'.cell? ⟨w.heap.size,1,none⟩=some (.int .i64 q)/\w'.cell? ⟨w.heap.size,2,none⟩=some (.int .i64 s)/\w'.cell? ⟨w.heap.size,3,none⟩=some (.int .i64 t)) (exact⟨by assumption,by assumption,by assumption,by assumption,by assumption,by assumption,by assumption,by assumption,by assumption⟩)
    (first|(go_at_call 48;refine(IN.out _ ‹_›).mono ?_;rintro e wn⟨rfl,D3,F3,z0,z1,z2,z3,z4,z5,z6,z7,z8⟩))
   cases v
   ·go_wp2_with fail;go_roundw
    case rel=>exact⟨k+1,by go_num,by omega,D3.out,F3.out,by rw[Hl.out,Hd.out];simp⟩
    case measure=>simp[intOf];omega
   ·go_wp2_with fail;go_ret;exact⟨by rw[Hl.out,Hd.out];simp,D3.out⟩
  ·go_wp2_with fail;go_ret;exact⟨by rw[Hl.out,List.drop_eq_nil_of_le (by omega)];rfl,D1⟩
theorem nj(A:Option Addr)(cap:Nat)(p q s t:Int)(w:World) :
  Calls prog 75 #[.slice A 0 cap,pk p q s t] w λe w'=>e=.returned (.bool false)/\Below w.heap.size w w':=by
 have D0:=Below.alloc' (Below.refl w.heap.size w) (.cells #[.int .i64 p,.int .i64 q,.int .i64 s,.int .i64 t] 29);go_enter func75,ntmps75;go_wp2_with fail;go_loopw[5] (λi wr=>i=.int .i64 0/\Below w.heap.size w wr) (λi _=>0)
 case atStart=>exact⟨rfl,D0⟩
 case round =>
  obtain⟨rfl,D1⟩:=hrel;go_wp2_with fail;go_ret;exact⟨rfl,D1⟩
theorem rlets_any{v:Value}{xs:List Rl}(p q s t:Int)(w:World)(h:Rules w.heap.size w v xs) :
  Calls prog 75 #[v,pk p q s t] w λe w'=>e=.returned (.bool (O2 xs p q s t))/\Below w.heap.size w w':=by
 obtain⟨A,cap,rfl,_,h1,h2,h3⟩:=h;by_cases hx:xs=[]
 ·subst hx;exact nj A cap p q s t w
 ·obtain⟨b,o,rfl,hb,hr⟩:=h3 hx;exact ni b o cap xs p q s t w hb h1 h2 hr
end Go.Proofs.YtppbfikimalojaaGreat
namespace Go.Proofs.YtppbfikimalojaaGreat
open Tryz
open Go.RowKit Go.Maps
section
variable {B0:Nat}{W0 W W':World}{nb sb S M kb mb:Nat}{vd vl:Value}{ds:List Dv}{ls:List Lk}{bl:(Int × Int)->Option Nat}{T:Tab}{k:Int}{P:d7}{t:Int × Int}{b c:Nat}
theorem nk{b1 b2 c1 c2:Nat}{u v:Value}(h1:B0<=b1)(h2:B0<=b2):Below B0 W ((W.setCell ⟨b1,c1,none⟩ u).setCell ⟨b2,c2,none⟩ v) :=
 ((Below.refl B0 W).setCell (p:=⟨b1,c1,none⟩) h1 u).setCell (p:=⟨b2,c2,none⟩) h2 v
theorem Sx.below(h:Sx B0 W0 nb sb S M kb mb vd vl ds ls bl T k P W)(hb:Below W.heap.size W W')(hB:B0<=W.heap.size):Sx B0 W0 nb sb S M kb mb vd vl ds ls bl T k P W' :=
 ⟨h.bel.trans (hb.mono hB),h.d.below (hb.mono hB),h.l.below (hb.mono hB),Bk.keep hb h.n,Bk.keep hb h.s,Bk.keep hb h.S,h.map.same (hb.block _ h.map.lt),λt b e=>⟨(h.row t b e).1.below hb,(h.row t b e).2⟩,h.inj,Bk.keep hb h.k,Bk.keep hb h.m,h.lo,h.dom⟩
theorem Sx.size(h:Sx B0 W0 nb sb S M kb mb vd vl ds ls bl T k P W):B0<=W.heap.size:=Nat.le_trans h.lo (Nat.le_of_lt h.m.lt)
theorem Sx.grow(h:Sx B0 W0 nb sb S M kb mb vd vl ds ls bl T k P W)(hb:Below W.heap.size W W'):Sx B0 W0 nb sb S M kb mb vd vl ds ls bl T k P W':=h.below hb h.size
theorem dA:prog.underlying 42=some (.map 27 50):=by kernel_rfl
theorem Sx.look(h:Sx B0 W0 nb sb S M kb mb vd vl ds ls bl T k P W)(hb:bl t=some b):(Instr.lookup 42 (.map (some M)) (.agg #[.int .i64 t.1,.int .i64 t.2]) false).run prog W=.ok (.slice (some ⟨b,0,none⟩) 16384 16384) W:=by
 have:=h.map.look1 dA (x:=t) (h.row t b hb).2.2;rw[hb]at this;exact this
theorem nq(h:tabP T k P t c<0)(hk:0<=k)(c':Nat):tabP T k (i4 P (some t) c) t c'=if c'=c then k+1 else tabP T k P t c':=by
 unfold tabP i4 at *;by_cases e:c'=c
 ·subst e;rw[if_pos rfl]
  split at h
  ·omega
  ·rw[if_pos ⟨h,Or.inr ⟨rfl,rfl⟩⟩]
 ·rw[if_neg e];by_cases hp:T t c'<0/\P t c'
  ·rw[if_pos hp,if_pos ⟨hp.1,Or.inl hp.2⟩]
  ·rw[if_neg hp,if_neg (λh2=>hp ⟨h2.1,h2.2.resolve_right λh3=>e h3.2⟩)]
theorem iJ{t':Int × Int}(hne:t'≠t):tabP T k (i4 P (some t) c) t'=tabP T k P t':=by
 funext c'
 unfold tabP i4;by_cases hp:T t' c'<0/\P t' c'
 ·rw[if_pos hp,if_pos ⟨hp.1,Or.inl hp.2⟩]
 ·rw[if_neg hp,if_neg (λh2=>hp ⟨h2.1,h2.2.resolve_right λh3=>hne (Option.some.inj h3.1).symm⟩)]
theorem nu(h:¬tabP T k P t c<0):tabP T k (i4 P (some t) c)=tabP T k P:=by
 funext t' c'
 by_cases ht:t'=t
 ·subst ht;by_cases e:c'=c
  ·subst e;unfold tabP i4 at *
   split at h
   ·rename_i hp
    rw[if_pos hp,if_pos ⟨hp.1,Or.inl hp.2⟩]
   ·rw[if_neg (λh2=>h h2.1)]
    rename_i hp
    rw[if_neg hp]
  ·unfold tabP i4;by_cases hp:T t' c'<0/\P t' c'
   ·rw[if_pos hp,if_pos ⟨hp.1,Or.inl hp.2⟩]
   ·rw[if_neg hp,if_neg (λh2=>hp ⟨h2.1,h2.2.resolve_right λh3=>e h3.2⟩)]
 ·rw[iJ ht]
theorem nw(hb:bl t=some b)(hc:c<16384)(h:tabP T k P t c<0)(hk:0<=k):G0 bl T (i4 P (some t) c)=true:=by
 unfold G0;refine @decide_eq_true _ (Classical.propDecidable _) ⟨t,c,by rw[hb];rfl,hc,?_,Or.inr ⟨rfl,rfl⟩⟩;unfold tabP at h
 split at h
 ·omega
 ·exact h
theorem ny(h:¬tabP T k P t c<0):G0 bl T (i4 P (some t) c)=G0 bl T P:=by
 unfold G0;rw[decide_eq_decide];refine⟨?_,λ⟨t',c',h1,h2,h3,h4⟩=>⟨t',c',h1,h2,h3,Or.inl h4⟩⟩;rintro⟨t',c',h1,h2,h3,h4|⟨h4,h5⟩⟩
 ·exact⟨t',c',h1,h2,h3,h4⟩
 ·cases h4;subst h5;unfold tabP at h
  split at h
  ·rename_i hp
   exact⟨t,c',h1,h2,hp⟩
  ·exact absurd h3 h
theorem nz:i4 P none c=P:=by
 funext t' c'
 unfold i4;refine propext ⟨λh=>h.resolve_right (λh=>by have:=h.1;cases this),Or.inl⟩
theorem Sx.nop(h:Sx B0 W0 nb sb S M kb mb vd vl ds ls bl T k P W)(ht:¬tabP T k P t c<0):Sx B0 W0 nb sb S M kb mb vd vl ds ls bl T k (i4 P (some t) c) W :=
 ⟨h.bel,h.d,h.l,h.n,h.s,h.S,h.map,λt' b' e=>by rw[nu ht];exact h.row t' b' e,h.inj,h.k,by rw[ny ht];exact h.m,h.lo,h.dom⟩
theorem Sx.ne(h:Sx B0 W0 nb sb S M kb mb vd vl ds ls bl T k P W)(hb:bl t=some b):b≠nb/\b≠sb/\b≠S/\b≠M/\b≠kb/\b≠mb :=
 have r:=(h.row t b hb).1
 ⟨r.ne2 h.n,r.ne h.s,r.ne2 h.S,r.map h.map,r.ne h.k,r.ne h.m⟩
theorem Sx.put(h:Sx B0 W0 nb sb S M kb mb vd vl ds ls bl T k P W)(hb:bl t=some b)(hc:c<16384)(ht:tabP T k P t c<0)(hk:0<=k) :
  Sx B0 W0 nb sb S M kb mb vd vl ds ls bl T k (i4 P (some t) c) ((W.setCell ⟨b,c,none⟩ (.int .i64 (k+1))).setCell ⟨mb,0,none⟩ (.bool true)):=by
 obtain⟨n1,n2,n3,n4,n5,n6⟩:=h.ne hb;have hB:=(h.row t b hb).2.1;have h1:∀j,j≠b->j≠mb->((W.setCell ⟨b,c,none⟩ (.int .i64 (k+1))).setCell ⟨mb,0,none⟩ (.bool true)).heap[j]?=W.heap[j]?:=λj e1 e2 =>
  (Below.heap_setCell _ ⟨mb,0,none⟩ _ j e2).trans (Below.heap_setCell W ⟨b,c,none⟩ _ j e1)
 have apart:∀{c1 c2:Array Value} {t1 t2:TypeId} {k1 k2:Nat},Bk W k1 c1 t1->Bk W k2 c2 t2->(c1≠c2\/t1≠t2)->k1≠k2:=λ{c1 c2 t1 t2 k1 k2} a1 a2 hne e=>by
  subst e;have:=a1.symm.trans a2;simp only[Option.some.injEq,Obj.cells.injEq]at this;rcases hne with hne|hne
  ·exact hne this.1
  ·exact hne this.2.1
 have e1:nb≠mb:=apart h.n h.m (Or.inl (λe=>by have:=congrArg Array.size e;simp at this));have e2:sb≠mb:=apart h.s h.m (Or.inl (λe=>by simp at e));have e3:S≠mb:=apart h.S h.m (Or.inl (λe=>by have:=congrArg Array.size e;simp at this));have e5:kb≠mb:=apart h.k h.m (Or.inl (λe=>by simp at e));have e4:M≠mb:=λe=>by
  obtain⟨es,cl,h2⟩:=h.map.isMap;rw[e]at h2;have:=h2.symm.trans h.m;cases this
 have hbel:Below B0 W ((W.setCell ⟨b,c,none⟩ (.int .i64 (k+1))).setCell ⟨mb,0,none⟩ (.bool true)):=nk hB h.lo;refine⟨h.bel.trans hbel,h.d.below hbel,h.l.below hbel,(h1 nb (Ne.symm n1) e1).trans h.n,(h1 sb (Ne.symm n2) e2).trans h.s,(h1 S (Ne.symm n3) e3).trans h.S,h.map.same (h1 M (Ne.symm n4) e4),λt' b' e=>?_,h.inj,(h1 kb (Ne.symm n5) e5).trans h.k,?_,h.lo,h.dom⟩
 ·obtain⟨r1,r2,r3⟩:=h.row t' b' e;have nm:=r1.ne h.m;refine⟨?_,r2,r3⟩;by_cases htt:t'=t
  ·subst htt;rw[hb]at e;cases e;have:=(r1.set hc (k+1)).same (W':=(W.setCell ⟨b,c,none⟩ (.int .i64 (k+1))).setCell ⟨mb,0,none⟩ (.bool true)) (Below.heap_setCell _ ⟨mb,0,none⟩ _ b nm);have hf:(λc'=>if c'=c then k+1 else tabP T k P t' c')=tabP T k (i4 P (some t') c) t':=funext λc'=>(nq ht hk c').symm;rw[hf]at this;exact this
  ·rw[iJ htt];have hbb:b'≠b:=λe'=>htt (h.inj t' t b' e (by rw[e'];exact hb));exact r1.same (h1 b' hbb nm)
 ·rw[nw hb hc ht hk];have:=Bk.setS (j:=0) (show Bk (W.setCell ⟨b,c,none⟩ (.int .i64 (k+1))) mb #[.bool (G0 bl T P)] 4 from(Below.heap_setCell W ⟨b,c,none⟩ _ mb (Ne.symm n6)).trans h.m) (.bool true);simpa using this
end
end Go.Proofs.YtppbfikimalojaaGreat
