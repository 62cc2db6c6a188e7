/-
  XAW.
-/
import Derived.Test.YtppbfikimalojaaGreatXAV
import Derived.Deep.RegionHeld3
import Derived.Test.YtppbfikimalojaaGreatXAA
import Derived.ProofKit
import Derived.OpenShut
import Derived.Deep.Slices
set_option maxHeartbeats 8000000
set_option maxRecDepth 100000
namespace Go.Proofs.YtppbfikimalojaaGreat
open Tryz
open Go.RowKit Go.Maps
theorem uFnS:prog.underlying 66=some (.slice 72):=by kernel_rfl
theorem uY:(prog.info? 72).map (λi=>(i.zero,i.size,i.bytes))=some (some .nilFunc,1,8):=by kernel_rfl
abbrev kD(da db:List Dv)(k:Nat):List Dv:=if k=0 then da else db
abbrev kL(la lb:List Lk)(k:Nat):List Lk:=if k=0 then la else lb
structure LpV(m:Int)(s:List UInt8)(da:List Dv)(la:List Lk)(db:List Dv)(lb:List Lk)(B k:Nat)(v:Value)(W:World):Prop where
 ok:∀j,j<k->i6 (kD da db j) (kL la lb j) s=0
 row:2<=m/\m<=40000->∃sd:List (Nat × Nat × (Nat->Bool)),sd.length=k/\W.ownsRow B 72 1 v k (sd.map λx=>fnS x.1 x.2.1)/\∀j x,sd[j]?=some x->SideV (sliceD (kD da db j) (kL la lb j) s) (sliceL (kD da db j) (kL la lb j) s) (U5 (kD da db j) (kL la lb j) s) x.2.2 x.1 x.2.1 W
section
variable {m:Int}{s:List UInt8}{da db:List Dv}{la lb:List Lk}{B k:Nat}{v:Value}{W W':World}
theorem LpV.below(h:LpV m s da la db lb B k v W)(hb:Below W.heap.size W W'):LpV m s da la db lb B k v W':=⟨h.ok,λhm=>by
 obtain⟨sd,h1,h2,h3⟩:=h.row hm;exact⟨sd,h1,aB h2 hb,λj x hj=>(h3 j x hj).below hb⟩⟩
theorem LpV.skip(h:LpV m s da la db lb B k v W)(hm:¬(2<=m/\m<=40000))(he:i6 (kD da db k) (kL la lb k) s=0):LpV m s da la db lb B (k+1) v W:=⟨λj hj=>by
 by_cases e:j=k
 ·rw[e];exact he
 ·exact h.ok j (by omega),λh'=>absurd h' hm⟩
theorem LpV.app(h:LpV m s da la db lb B k v W)(hm:2<=m/\m<=40000)(hk:k<2)(hB:B<=W.heap.size){σ:Nat->Bool}{nS nA:Nat}(he:i6 (kD da db k) (kL la lb k) s=0)(hs:SideV (sliceD (kD da db k) (kL la lb k) s) (sliceL (kD da db k) (kL la lb k) s) (U5 (kD da db k) (kL la lb k) s) σ nS nA W) :
  ∃g cap W1,(Builtin.append_ #[66,66] 66 #[v,.slice (some ⟨W.heap.size,0,none⟩) 1 1]).run prog (W.alloc (.cells #[fnS nS nA] 72))=.ok (.slice (some ⟨g,0,none⟩) (k+1) cap) W1/\LpV m s da la db lb B (k+1) (.slice (some ⟨g,0,none⟩) (k+1) cap) W1/\Below B W W1:=by
 obtain⟨sd,h1,h2,h3⟩:=h.row hm;obtain⟨v',W1,hr,q1,q2,q3,_⟩:=ba uFnS uY rfl (by omega) (by omega) 66 h2 (us:=[fnS nS nA]) rfl (by simp[Value.oneCell']) (by omega) hB;obtain⟨g,cap,rfl,hg1,hg2,_⟩:=U7 q1 (by omega);refine⟨g,cap,W1,hr,⟨λj hj=>?_,λ_=>⟨sd++[(nS,nA,σ)],by simp[h1],?_,λj x hj=>?_⟩⟩,q2⟩
 ·by_cases e:j=k
  ·rw[e];exact he
  ·exact h.ok j (by omega)
 ·rw[List.map_append];exact q1
 ·by_cases e:j=k
  ·subst e;rw[List.getElem?_append_right (by omega),h1,Nat.sub_self]at hj;obtain rfl:=Option.some.inj hj;exact hs.kept h2 q3
  ·have hl:=(List.getElem?_eq_some_iff.1 hj).1;rw[List.length_append,List.length_singleton]at hl;rw[List.getElem?_append_left (by omega)]at hj;exact(h3 j x hj).kept h2 q3
end
theorem uZ{m x0 x1 x2 x3 q er:Int}{s:List UInt8}{da db:List Dv}{la lb:List Lk}{B k:Nat}{v:Value}{W:World}(h:LpV m s da la db lb B k v W)(hk:k<2)(hA:AtX da la db lb s m x0 x1 x2 x3 q er)(hn:i6 (kD da db k) (kL la lb k) s≠0):x0=0/\x1=0/\x2=0/\x3=0/\q=0/\er=i6 (kD da db k) (kL la lb k) s:=by
 by_cases e:k=0
 ·subst e;exact vi hA hn
 ·obtain rfl:k=1:=by omega
  exact vj hA (h.ok 0 (by omega)) hn
theorem vc(A B C D:Option Addr)(cap d8 cq cq':Nat)(da:List Dv)(la:List Lk)(db:List Dv)(lb:List Lk)(s:ByteArray)(m:Int)(w:World)(hD:Hid (Devs w.heap.size w (.slice A da.length cap) da))(hL:Hid (Links w.heap.size w (.slice B la.length d8) la))(hE:Hid (Devs w.heap.size w (.slice C db.length cq) db))(hM:Hid (Links w.heap.size w (.slice D lb.length cq') lb)) :
  Calls prog 5 #[.agg #[.slice A da.length cap,.slice B la.length d8],.agg #[.slice C db.length cq,.slice D lb.length cq'],.string s,.int .i64 m] w λe w'=>e=.returned (.bool true)/\Below w.heap.size w w':=by
 have D1:Below w.heap.size w ((w.alloc (.cells #[.slice A da.length cap,.slice B la.length d8] 25)).alloc (.cells #[.slice C db.length cq,.slice D lb.length cq'] 25)):=Below.alN (Below.alN (Below.refl _ _) _) _;have N1:=(i7 w #[.slice A da.length cap,.slice B la.length d8] 25).alloc (.cells #[.slice C db.length cq,.slice D lb.length cq'] 25);have M1:=E0 (w.alloc (.cells #[.slice A da.length cap,.slice B la.length d8] 25)) #[.slice C db.length cq,.slice D lb.length cq'] 25 (w.heap.size+1) (by simp);obtain⟨w1,hw1⟩:∃w1,w1=(w.alloc (.cells #[.slice A da.length cap,.slice B la.length d8] 25)).alloc (.cells #[.slice C db.length cq,.slice D lb.length cq'] 25):=⟨_,rfl⟩;rw[<- hw1]at D1 N1 M1;have AT:Hid (Calls prog 23 #[.agg #[.slice A da.length cap,.slice B la.length d8],.agg #[.slice C db.length cq,.slice D lb.length cq'],.string s,.int .i64 m] w1 λe w'=>(∃x0 x1 x2 x3 k er:Int,e=.returned (.tuple #[pk x0 x1 x2 x3,.int .i64 k,.int .i64 er])/\Hid (AtX da la db lb s.toList m x0 x1 x2 x3 k er))/\Below w1.heap.size w1 w') :=
  at_x A B C D cap d8 cq cq' da la db lb s m w1 ((hD.out.below D1).mono D1.size) ((hL.out.below D1).mono D1.size) ((hE.out.below D1).mono D1.size) ((hM.out.below D1).mono D1.size)
 have NV:Hid (∀k:Nat,k<2->∃(A' B':Option Addr) (c c':Nat),Hid (∀W,Below w.heap.size w W->Devs W.heap.size W (.slice A' (kD da db k).length c) (kD da db k)/\Links W.heap.size W (.slice B' (kL la lb k).length c') (kL la lb k))/\∀j u,([Value.slice A da.length cap,.slice B la.length d8,.slice C db.length cq,.slice D lb.length cq'])[k*2+j]?=some u->(j=0->u=.slice A' (kD da db k).length c)/\(j=1->u=.slice B' (kL la lb k).length c')):=λk hk=>by
  by_cases e:k=0
  ·subst e;refine⟨A,B,cap,d8,λW hb=>⟨(hD.out.below hb).mono hb.size,(hL.out.below hb).mono hb.size⟩,λj u hj=>⟨λe=>?_,λe=>?_⟩⟩
   ·subst e;show u=.slice A da.length cap;simpa using hj.symm
   ·subst e;show u=.slice B la.length d8;simpa using hj.symm
  ·obtain rfl:k=1:=by omega
   refine⟨C,D,cq,cq',λW hb=>⟨(hE.out.below hb).mono hb.size,(hM.out.below hb).mono hb.size⟩,λj u hj=>⟨λe=>?_,λe=>?_⟩⟩
   ·subst e;show u=.slice C db.length cq;simpa using hj.symm
   ·subst e;show u=.slice D lb.length cq';simpa using hj.symm
 have IM:Hid (∀W,Calls prog 8 #[.int .i64 m,.int .i64 2,.int .i64 40000] W λe w'=>e=.returned (.bool (decide (2<=m)&&decide (m<=40000)))/\w'=W):=λW=>aJ m 2 40000 W;clear hD hL hE hM;obtain⟨n0,n1⟩:=N1.two;obtain⟨m0,m1⟩:=M1.two;have ln:=N1.lt;have lm:=M1.lt;subst hw1;go_enter func5,ntmps5;go_wp2_with fail;refine AT.out.mono ?_;rintro e w2⟨⟨x0,x1,x2,x3,q,er,rfl,hA⟩,hb2⟩;have D3:Below w.heap.size w (w2.alloc (.cells #[.int .i64 x0,.int .i64 x1,.int .i64 x2,.int .i64 x3] 29)):=Below.alN (g8 hb2 D1) _;have N3:=(Bk.keep hb2 N1).alloc (.cells #[.int .i64 x0,.int .i64 x1,.int .i64 x2,.int .i64 x3] 29);have M3:=(Bk.keep hb2 M1).alloc (.cells #[.int .i64 x0,.int .i64 x1,.int .i64 x2,.int .i64 x3] 29);have P3:=i7 w2 #[.int .i64 x0,.int .i64 x1,.int .i64 x2,.int .i64 x3] 29;clear AT hb2 D1 N1 M1 n0 n1 m0 m1 ln lm;go_upto_region 4 with fail;generalize w2.alloc (.cells #[.int .i64 x0,.int .i64 x1,.int .i64 x2,.int .i64 x3] 29)=w3 at *;generalize w2.heap.size=pb at *;obtain⟨n0,n1⟩:=N3.two;obtain⟨m0,m1⟩:=M3.two;have ln:=N3.lt;have lm:=M3.lt;have D4:Below w.heap.size w (w3.alloc (.cells #[.slice A da.length cap,.slice B la.length d8,.slice C db.length cq,.slice D lb.length cq'] 25)):=Below.alN D3 _;have P4:=P3.alloc (.cells #[.slice A da.length cap,.slice B la.length d8,.slice C db.length cq,.slice D lb.length cq'] 25);have X4:=i7 w3 #[.slice A da.length cap,.slice B la.length d8,.slice C db.length cq,.slice D lb.length cq'] 25;clear D3 P3 N3 M3;go_upto_region 5 with fail;clear n0 n1 m0 m1 ln lm;generalize w3.alloc (.cells #[.slice A da.length cap,.slice B la.length d8,.slice C db.length cq,.slice D lb.length cq'] 25)=w4 at *;generalize w3.heap.size=nb at *;obtain⟨V,hV⟩:∃V:Nat->Value->World->Prop,V=λk v W=>Below w4.heap.size w4 W/\LpV m s.toList da la db lb w4.heap.size k v W:=⟨_,rfl⟩;have V0:V 0 nilS w4:=by
  rw[hV];exact⟨Below.refl _ _,⟨λj hj=>by omega,λ_=>⟨[],rfl,eu _ _ _,λj x hj=>by simp at hj⟩⟩⟩
 have VB:Hid (∀{k:Nat} {v:Value} {W W':World},V k v W->Below W.heap.size W W'->V k v W'):=λ{k v W W'} h hb=>by rw[hV]at h ⊢;exact⟨g8 hb h.1,h.2.below hb⟩
 have VD:Hid (∀{k:Nat} {v:Value} {W:World},V k v W->Below w.heap.size w W):=λ{k v W} h=>by rw[hV]at h;exact g8 h.1 D4
 have VP:Hid (∀{k:Nat} {v:Value} {W:World},V k v W->Bk W pb #[.int .i64 x0,.int .i64 x1,.int .i64 x2,.int .i64 x3] 29):=λ{k v W} h=>by rw[hV]at h;exact Bk.keep h.1 P4
 have VX:Hid (∀{k:Nat} {v:Value} {W:World},V k v W->Bk W nb #[.slice A da.length cap,.slice B la.length d8,.slice C db.length cq,.slice D lb.length cq'] 25):=λ{k v W} h=>by rw[hV]at h;exact Bk.keep h.1 X4
 have VE:Hid (∀{k:Nat} {v:Value} {W:World},k<2->V k v W->i6 (kD da db k) (kL la lb k) s.toList≠0->x0=0/\x1=0/\x2=0/\x3=0/\q=0/\er=i6 (kD da db k) (kL la lb k) s.toList):=λ{k v W} hk h hn=>by rw[hV]at h;exact uZ h.2 hk hA.out hn
 have VS:Hid (∀{k:Nat} {v:Value} {W:World},V k v W->¬(2<=m/\m<=40000)->i6 (kD da db k) (kL la lb k) s.toList=0->V (k+1) v W):=λ{k v W} h hm he=>by rw[hV]at h ⊢;exact⟨h.1,h.2.skip hm he⟩
 have VA:Hid (∀{k:Nat} {v:Value} {W:World},V k v W->2<=m/\m<=40000->k<2->∀{σ:Nat->Bool} {nS nA:Nat},i6 (kD da db k) (kL la lb k) s.toList=0->SideV (sliceD (kD da db k) (kL la lb k) s.toList) (sliceL (kD da db k) (kL la lb k) s.toList) (U5 (kD da db k) (kL la lb k) s.toList) σ nS nA W->∃g cap W1,(Builtin.append_ #[66,66] 66 #[v,.slice (some ⟨W.heap.size,0,none⟩) 1 1]).run prog (W.alloc (.cells #[fnS nS nA] 72))=.ok (.slice (some ⟨g,0,none⟩) (k+1) cap) W1/\V (k+1) (.slice (some ⟨g,0,none⟩) (k+1) cap) W1):=λ{k v W} h hm hk {σ nS nA} he hs=>by
  rw[hV]at h ⊢;obtain⟨g,cap,W1,h1,h2,h3⟩:=h.2.app hm hk h.1.size he hs;exact⟨g,cap,W1,h1,h.1.trans h3,h2⟩
 have VZ:Hid (∀{v:Value} {W:World},V 2 v W->2<=m/\m<=40000->er≠6->∃(g c n1 n2 n3 n4:Nat) (σ τ:Nat->Bool),v=.slice (some ⟨g,0,none⟩) 2 c/\2<=c/\c<=maxLen/\g<W.heap.size/\W.cell? ⟨g,0,none⟩=some (fnS n1 n2)/\W.cell? ⟨g,1,none⟩=some (fnS n3 n4)/\Hid (∀W',Below W.heap.size W W'->Calls prog 28 #[fnS n1 n2,fnS n3 n4] W' λe w'=>(∃y0 y1 y2 y3 k:Int,e=.returned (.tuple #[pk y0 y1 y2 y3,.int .i64 k])/\Hid (er=0/\x0=y0/\x1=y1/\x2=y2/\x3=y3/\q=k))/\Below W'.heap.size W' w')):=λ{v W} h hm he6=>by
  rw[hV]at h;obtain⟨sd,h1,h2,h3⟩:=h.2.row hm;obtain⟨g,c,rfl,_,hg,hc1,hc2,_,hcell⟩:=U7 h2 (by omega)
  match sd,h1 with
  | [(n1,n2,σ),(n3,n4,τ)],_ =>
    have s0:=h3 0 _ rfl;have s1:=h3 1 _ rfl;have e0:=h.2.ok 0 (by omega);have e1:=h.2.ok 1 (by omega);refine⟨g,c,n1,n2,n3,n4,σ,τ,rfl,hc1,hc2,hg,hcell 0 _ rfl,hcell 1 _ rfl,λW' hb'=>?_⟩;refine(sK n1 n2 n3 n4 σ τ W' (λV c hb _=>(s0.below (g8 hb hb')).call (fX e0).1 c) (λV c hb _=>(s1.below (g8 hb hb')).call (fX e1).1 c)).mono λe w' ⟨y0,y1,y2,y3,k,a1,a2,a3⟩=>⟨⟨y0,y1,y2,y3,k,a1,?_⟩,a3⟩;exact vh e0 e1 hm hA.out he6 s0 s1 a2.out
 have VM:Hid (∀{v:Value} {W:World},V 2 v W->¬(2<=m/\m<=40000)->x0=0/\x1=0/\x2=0/\x3=0/\q=0/\er=1):=λ{v W} h hm=>by
  rw[hV]at h;exact vo hA.out (h.2.ok 0 (by omega)) (h.2.ok 1 (by omega)) hm
 have VF:Hid (∀{v:Value} {W:World},V 2 v W->2<=m/\m<=40000->er=6->x0=0/\x1=0/\x2=0/\x3=0/\q=0):=λ{v W} h hm he=>by
  rw[hV]at h;have:=hA.out;rw[he]at this;exact vp this (h.2.ok 0 (by omega)) (h.2.ok 1 (by omega)) hm
 clear hV hA D4 P4 X4;go_loopw[12,13,37] (λv12 v13 v37 wr=>∃(k:Nat) (f:Int),v37=.int .i64 (k:Int)/\v13=.int .i64 f/\k<=2/\V k v12 wr/\Hid (f=if 2<=m/\m<=40000 then 0 else if k=0 then 0 else 1)) (λ_ _ v37 _=>2-(intOf v37).toNat)
 case atStart=>exact⟨0,0,rfl,rfl,by omega,V0,by show(0:Int)=_;split <;> rfl⟩
 case round =>
  clear V0;obtain⟨k,f,rfl,rfl,hk,V1,hf⟩:=hrel;by_cases hlt:k<2
  ·obtain⟨A',B',c,c',hn,hu⟩:=NV.out k hlt;have X1:=VX.out V1;have lx:=X1.lt;have y0:wr.cell? ⟨nb,k*2,none⟩=some (.slice A' (kD da db k).length c):=by
    rw[X1.at (k*2)];have hj:∃u,([Value.slice A da.length cap,.slice B la.length d8,.slice C db.length cq,.slice D lb.length cq'])[k*2+0]?=some u:=⟨_,List.getElem?_eq_getElem (by simp;omega)⟩;obtain⟨u,hj⟩:=hj;have:=(hu 0 u hj).1 rfl;rw[<- this];simpa using hj
   have y1:wr.cell? ⟨nb,k*2+1,none⟩=some (.slice B' (kL la lb k).length c'):=by
    rw[X1.at (k*2+1)];have hj:∃u,([Value.slice A da.length cap,.slice B la.length d8,.slice C db.length cq,.slice D lb.length cq'])[k*2+1]?=some u:=⟨_,List.getElem?_eq_getElem (by simp;omega)⟩;obtain⟨u,hj⟩:=hj;have:=(hu 1 u hj).2 rfl;rw[<- this];simpa using hj
   have EE:Hid (i6 (kD da db k) (kL la lb k) s.toList≠0->x0=0/\x1=0/\x2=0/\x3=0/\q=0/\er=i6 (kD da db k) (kL la lb k) s.toList):=VE.out hlt V1;have SK:Hid (∀{v:Value} {W:World},V k v W->¬(2<=m/\m<=40000)->i6 (kD da db k) (kL la lb k) s.toList=0->V (k+1) v W):=VS.out;have AP:Hid (∀{v:Value} {W:World},V k v W->2<=m/\m<=40000->∀{σ:Nat->Bool} {nS nA:Nat},i6 (kD da db k) (kL la lb k) s.toList=0->SideV (sliceD (kD da db k) (kL la lb k) s.toList) (sliceL (kD da db k) (kL la lb k) s.toList) (U5 (kD da db k) (kL la lb k) s.toList) σ nS nA W->∃g cap W1,(Builtin.append_ #[66,66] 66 #[v,.slice (some ⟨W.heap.size,0,none⟩) 1 1]).run prog (W.alloc (.cells #[fnS nS nA] 72))=.ok (.slice (some ⟨g,0,none⟩) (k+1) cap) W1/\V (k+1) (.slice (some ⟨g,0,none⟩) (k+1) cap) W1):=λ{v W} h hm {σ nS nA} he hs=>VA.out h hm hlt he hs;have HN:Hid (∀W,Below w.heap.size w W->Devs W.heap.size W (.slice A' (kD da db k).length c) (kD da db k)/\Links W.heap.size W (.slice B' (kL la lb k).length c') (kL la lb k)):=hn;clear NV VX VE VS VA VZ VM VF hu hn X1;generalize kD da db k=ds at *;generalize kL la lb k=ls at *;have NT:Hid (∀{v:Value} {W:World},V k v W->Calls prog 7 #[.agg #[.slice A' ds.length c,.slice B' ls.length c']] W λe w'=>e=.returned (.int .i64 (netV ds ls))/\Below W.heap.size W w'):=λ{v W} h=>sE _ _ ds ls W (HN.out _ (VD.out h)).1 (HN.out _ (VD.out h)).2;have HO:Hid (∀{v:Value} {W:World},V k v W->Calls prog 24 #[.agg #[.slice A' ds.length c,.slice B' ls.length c'],.string s] W λe w'=>e=.returned (.int .i64 (hostFrom ds s.toList 0))/\Below W.heap.size W w'):=λ{v W} h=>tC A' B' c c' ds ls s W (HN.out _ (VD.out h)).1;have SL:Hid (∀{v:Value} {W:World} {i:Nat},V k v W->netV ds ls=0->i<ds.length->Calls prog 25 #[.agg #[.slice A' ds.length c,.slice B' ls.length c'],.int .i64 (i:Int)] W (fW W ds ls (wholeF ds ls (i:Int)))):=λ{v W i} h hz hi=>vg A' B' c c' ds ls i W hz hi (HN.out _ (VD.out h)).1 (HN.out _ (VD.out h)).2;have k1:(0:Int)<=(k:Int):=by omega
   have k2:(k:Int)<2:=by omega
   clear HN;go_wp2_with fail;have V5:=VB.out V1 (Below.alN (Below.refl _ _) (.cells #[.slice A' ds.length c,.slice B' ls.length c'] 25));have Z5:=i7 wr #[.slice A' ds.length c,.slice B' ls.length c'] 25;refine(NT.out V5).mono ?_;rintro e w6⟨rfl,hb6⟩;have V6:=VB.out V5 hb6;have Z6:=Bk.keep hb6 Z5;clear NT V5 Z5 V1 hb6 y0 y1 lx;generalize wr.heap.size=zb at *;obtain⟨z0,z1⟩:=Z6.two;have lz:=Z6.lt;by_cases hz:netV ds ls=0
   rotate_left
   ·have hE:i6 ds ls s.toList=netV ds ls:=by unfold i6;rw[if_neg hz]
    obtain⟨rfl,rfl,rfl,rfl,rfl,rfl⟩:=EE.out (by rw[hE];exact hz);rw[hE]at *;have t1:(netV ds ls != 0)=true:=by simpa using hz
    obtain⟨p0,p1,p2,p3,_⟩:=(VP.out V6).four;have lp:=(VP.out V6).lt;have DD:=VD.out V6;clear EE SK AP HO SL VB VD VP V6 Z6 hE;generalize netV ds ls=z at *;go_wp2_with fail;go_ret;exact⟨by simp,DD⟩
   rw[hz];go_wp2_with fail;refine(HO.out V6).mono ?_;rintro e w7⟨rfl,hb7⟩;have V7:=VB.out V6 hb7;have Z7:=Bk.keep hb7 Z6;clear HO V6 Z6 z0 z1 lz hb7;obtain⟨z0,z1⟩:=Z7.two;have lz:=Z7.lt;rcases fR ds s.toList ds.length 0 (by omega)with hh|⟨i,hi,hil⟩
   ·have hE:i6 ds ls s.toList=4:=by unfold i6;rw[if_pos hz,if_pos hh]
    obtain⟨rfl,rfl,rfl,rfl,rfl,rfl⟩:=EE.out (by rw[hE];decide);rw[hE]at *;obtain⟨p0,p1,p2,p3,_⟩:=(VP.out V7).four;have lp:=(VP.out V7).lt;have DD:=VD.out V7;clear EE SK AP SL VB VD VP V7 Z7 hE hz;generalize hostFrom ds s.toList 0=h at *;go_wp2_with fail;go_ret;exact⟨by simp,DD⟩
   have hE:i6 ds ls s.toList=0:=by unfold i6;rw[if_pos hz,hi,if_neg (by omega)]
   have sD:sliceD ds ls s.toList=e8 ds (wholeF ds ls (i:Int)):=by unfold sliceD;rw[hi]
   have sL:sliceL ds ls s.toList=e9 ls (wholeF ds ls (i:Int)):=by unfold sliceL;rw[hi]
   have sH:U5 ds ls s.toList=(m8 (wholeF ds ls (i:Int)) (i:Int):Int):=by unfold U5;rw[hi]
   obtain⟨hP,hmi⟩:=ia hz hil;have hpz:=ib hz hP;have SK:Hid (∀{v:Value} {W:World},V k v W->¬(2<=m/\m<=40000)->V (k+1) v W):=λ{v W} h hm=>SK.out h hm hE;rw[sD,sL,sH]at AP;have AP:Hid (∀{v:Value} {W:World},V k v W->2<=m/\m<=40000->∀{σ:Nat->Bool} {nS nA:Nat},SideV (e8 ds (wholeF ds ls (i:Int))) (e9 ls (wholeF ds ls (i:Int))) (m8 (wholeF ds ls (i:Int)) (i:Int):Int) σ nS nA W->∃g cap W1,(Builtin.append_ #[66,66] 66 #[v,.slice (some ⟨W.heap.size,0,none⟩) 1 1]).run prog (W.alloc (.cells #[fnS nS nA] 72))=.ok (.slice (some ⟨g,0,none⟩) (k+1) cap) W1/\V (k+1) (.slice (some ⟨g,0,none⟩) (k+1) cap) W1):=λ{v W} h hm {σ nS nA} hs=>AP.out h hm hE hs;have SL:Hid (∀{v:Value} {W:World},V k v W->Calls prog 25 #[.agg #[.slice A' ds.length c,.slice B' ls.length c'],.int .i64 (i:Int)] W (fW W ds ls (wholeF ds ls (i:Int)))):=λ{v W} h=>SL.out h hz hil;have i0:¬(i:Int)<0:=by omega
   rw[hi];clear EE sD sL sH hE hz hi;generalize wholeF ds ls (i:Int)=F at *;go_wp2_with fail;refine(SL.out V7).mono ?_;rintro e w8⟨A1,A2,c1,c2,g,cg,rfl,hb8,hO⟩;have V8:=VB.out V7 hb8;clear SL V7 Z7 z0 z1 lz;have V9:=VB.out V8 (Below.alN (Below.refl _ _) (.cells #[.slice A1 (e8 ds F).length c1,.slice A2 (e9 ls F).length c2] 25));have Z9:=i7 w8 #[.slice A1 (e8 ds F).length c1,.slice A2 (e9 ls F).length c2] 25;have hO9:Hid (∀W,Below (w8.alloc (.cells #[.slice A1 (e8 ds F).length c1,.slice A2 (e9 ls F).length c2] 25)).heap.size (w8.alloc (.cells #[.slice A1 (e8 ds F).length c1,.slice A2 (e9 ls F).length c2] 25)) W->Devs W.heap.size W (.slice A1 (e8 ds F).length c1) (e8 ds F)/\Links W.heap.size W (.slice A2 (e9 ls F).length c2) (e9 ls F)/\SlAt W.heap.size W 1 IsI (.slice (some ⟨g,0,none⟩) F.length cg) F):=λW hb=>by
    have hb':=g8 hb (Below.alN (Below.refl w8.heap.size w8) (.cells #[.slice A1 (e8 ds F).length c1,.slice A2 (e9 ls F).length c2] 25));obtain⟨o1,o2,o3⟩:=hO.out;exact⟨(o1.below hb').mono hb'.size,(o2.below hb').mono hb'.size,SlAt.mono (SlAt.below o3 hb' (λ_ _ _ h=>h)) hb'.size (λ_ _ _ h=>h)⟩
   clear hO hb8 V8;by_cases hm:2<=m/\m<=40000
   rotate_left
   ·have IF:Hid (∀W,Calls prog 8 #[.int .i64 m,.int .i64 2,.int .i64 40000] W λe w'=>e=.returned (.bool false)/\w'=W):=λW=>by
     have:=IM.out W;rw[show(decide (2<=m)&&decide (m<=40000))=false by
      rw[Bool.and_eq_false_iff,decide_eq_false_iff_not,decide_eq_false_iff_not];omega]at this
     exact this
    have V10:=SK.out V9 hm;have hf2:Hid ((1:Int)=if 2<=m/\m<=40000 then 0 else if k+1=0 then 0 else 1):=by
     show _=_;rw[if_neg hm,if_neg (by omega)]
    clear IM SK AP VB VD VP hO9 Z9 V9 hf hm hP hpz hmi;go_wp2_with fail;refine(IF.out _).mono ?_;rintro e w10⟨rfl,rfl⟩;clear IF;go_wp2_with fail;go_roundw
    case rel=>exact⟨k+1,1,by go_num,rfl,by omega,V10,hf2⟩
    case measure=>simp[intOf];omega
   have IT:Hid (∀W,Calls prog 8 #[.int .i64 m,.int .i64 2,.int .i64 40000] W λe w'=>e=.returned (.bool true)/\w'=W):=λW=>by
    have:=IM.out W;rw[decide_eq_true hm.1,decide_eq_true hm.2]at this;exact this
   obtain rfl:f=0:=by rw[hf.out,if_pos hm]
   have hf2:Hid ((0:Int)=if 2<=m/\m<=40000 then 0 else if k+1=0 then 0 else 1):=by
    show _=_;rw[if_pos hm]
   clear IM SK hf;obtain⟨z0,z1⟩:=Z9.two;have lz:=Z9.lt;have SP:Hid (Calls prog 9 #[.agg #[.slice A1 (e8 ds F).length c1,.slice A2 (e9 ls F).length c2]] (w8.alloc (.cells #[.slice A1 (e8 ds F).length c1,.slice A2 (e9 ls F).length c2] 25)) λe w'=>∃(S:Nat),e=.returned (.pointer (some ⟨S,0,none⟩))/\Hid (∃(M:Nat) (bl:(Int × Int)->Option Nat) (T:Tab) (k:Nat),SpV (e8 ds F) (e9 ls F) S M bl T k w')/\Below (w8.alloc (.cells #[.slice A1 (e8 ds F).length c1,.slice A2 (e9 ls F).length c2] 25)).heap.size (w8.alloc (.cells #[.slice A1 (e8 ds F).length c1,.slice A2 (e9 ls F).length c2] 25)) w'):=(qd A1 A2 c1 c2 (e8 ds F) (e9 ls F) (w8.alloc (.cells #[.slice A1 (e8 ds F).length c1,.slice A2 (e9 ls F).length c2] 25)) hpz (hO9.out _ (Below.refl _ _)).1 (hO9.out _ (Below.refl _ _)).2.1).mono λe w' ⟨S,M,bl,T,k,h1,h2,h3⟩=>⟨S,h1,⟨M,bl,T,k,h2⟩,h3⟩;have IX:Hid (∀W,Below (w8.alloc (.cells #[.slice A1 (e8 ds F).length c1,.slice A2 (e9 ls F).length c2] 25)).heap.size (w8.alloc (.cells #[.slice A1 (e8 ds F).length c1,.slice A2 (e9 ls F).length c2] 25)) W->Calls prog 26 #[.slice (some ⟨g,0,none⟩) F.length cg,.int .i64 (i:Int)] W λe w'=>e=.returned (.int .i64 (m8 F (i:Int):Int))/\w'=W):=λW hb=>(kE _ _ cg F (i:Int) _ W (hO9.out W hb).2.2).mono λe w' ⟨j,h1,h2,h3⟩=>⟨by rw[h1,hG h2.out hmi hP.sr hP.ok.nd],h3⟩;clear hO9 hP hpz hmi;go_wp2_with fail;refine(IT.out _).mono ?_;rintro e w10⟨rfl,rfl⟩;clear IT;go_wp2_with fail;refine SP.out.mono ?_;rintro e w11⟨S,rfl,hS,hb11⟩;have V11:=VB.out V9 hb11;have B12:Below (w8.alloc (.cells #[.slice A1 (e8 ds F).length c1,.slice A2 (e9 ls F).length c2] 25)).heap.size (w8.alloc (.cells #[.slice A1 (e8 ds F).length c1,.slice A2 (e9 ls F).length c2] 25)) (w11.alloc (.cells #[.pointer (some ⟨S,0,none⟩)] 39)):=Below.alN hb11 _;have V12:=VB.out V11 (Below.alN (Below.refl _ _) (.cells #[.pointer (some ⟨S,0,none⟩)] 39));have S12:=i7 w11 #[.pointer (some ⟨S,0,none⟩)] 39;have hS12:Hid (∀W,Below (w11.alloc (.cells #[.pointer (some ⟨S,0,none⟩)] 39)).heap.size (w11.alloc (.cells #[.pointer (some ⟨S,0,none⟩)] 39)) W->∃(M:Nat) (bl:(Int × Int)->Option Nat) (T:Tab) (k:Nat),SpV (e8 ds F) (e9 ls F) S M bl T k W):=λW hb=>by
    obtain⟨M,bl,T,k,h⟩:=hS.out;exact⟨M,bl,T,k,(h.grow (Below.alN (Below.refl _ _) _)).grow hb⟩
   clear SP hS hb11 V9 V11 Z9 z0 z1 lz;go_wp2_with fail;refine(IX.out _ B12).mono ?_;rintro e w13⟨rfl,rfl⟩;generalize hw12:w11.alloc (.cells #[.pointer (some ⟨S,0,none⟩)] 39)=w12 at *;have V14:=VB.out V12 (Below.alN (Below.refl _ _) (.cells #[.int .i64 (m8 F (i:Int):Int),.int .i64 0] 27));have S14:=S12.alloc (.cells #[.int .i64 (m8 F (i:Int):Int),.int .i64 0] 27);have A14:=i7 w12 #[.int .i64 (m8 F (i:Int):Int),.int .i64 0] 27;obtain⟨M,bl,T,kk,hSp⟩:=hS12.out _ (Below.alN (Below.refl _ _) (.cells #[.int .i64 (m8 F (i:Int):Int),.int .i64 0] 27));obtain⟨g4,cap4,W4,hrun,V15⟩:=AP.out V14 hm ⟨⟨S,M,bl,T,kk,hSp,S14,rfl⟩,A14⟩;simp only[World.size_alloc]at hrun;clear IX hS12 B12 V12 S12 AP VB VD VP V14 S14 A14 hSp hw12;go_wp2_with (at_builtin;refine ah rfl _ _ 66 rfl rfl rfl hrun ?_);clear hrun;go_roundw
   case rel=>exact⟨k+1,0,by go_num,rfl,by omega,V15,hf2⟩
   case measure=>simp[intOf];omega
  ·obtain rfl:k=2:=by omega
   clear NV VX VE VS VA;have DD:=VD.out V1;have P1:=VP.out V1;obtain⟨p0,p1,p2,p3,pf⟩:=P1.four;have lp:=P1.lt;by_cases hm:2<=m/\m<=40000
   rotate_left
   ·obtain⟨rfl,rfl,rfl,rfl,rfl,rfl⟩:=VM.out V1 hm;obtain rfl:f=1:=by rw[hf.out,if_neg hm];rfl
    clear VZ VM VF V1 VB VD VP P1 hf IM;go_wp2_with fail;go_ret;exact⟨rfl,DD⟩
   obtain rfl:f=0:=by rw[hf.out,if_pos hm]
   by_cases he:er=6
   ·subst he;obtain⟨rfl,rfl,rfl,rfl,rfl⟩:=VF.out V1 hm rfl;clear VZ VM VF V1 VB VD VP P1 hf IM;go_wp2_with fail;go_ret;exact⟨rfl,DD⟩
   have t6:(er == 6)=false:=by simpa using he
   obtain⟨g,c,n1,n2,n3,n4,σ,τ,rfl,hc1,hc2,hg,f0,f1,HL⟩:=VZ.out V1 hm he;unfold maxLen at hc2;have hb0:Hid (∀{w':World},Below wr.heap.size wr w'->Below w.heap.size w w'/\Bk w' pb #[.int .i64 x0,.int .i64 x1,.int .i64 x2,.int .i64 x3] 29):=λ{w'} hb=>⟨g8 hb DD,Bk.keep hb P1⟩;have zle:w.heap.size<=wr.heap.size:=DD.size;have pne:pb≠wr.heap.size:=by omega
   clear VZ VM VF V1 VB VD VP hf IM DD P1 he;go_wp2_with fail;have HS:Hid (∀{W:World},Below wr.heap.size wr W->W.cell? ⟨g,0,none⟩=some (fnS n1 n2)/\W.cell? ⟨g,1,none⟩=some (fnS n3 n4)):=λ{W} hb=>⟨(hb.cell (p:=⟨g,0,none⟩) hg).trans f0,(hb.cell (p:=⟨g,1,none⟩) hg).trans f1⟩;have Z0:=i7 wr #[.int .i64 0,.int .i64 0,.int .i64 0,.int .i64 0] 29;go_region_held3 (λW=>W.cell? ⟨g,0,none⟩=some (fnS n1 n2)/\W.cell? ⟨g,1,none⟩=some (fnS n3 n4)) (first|exact HS.out (bj _)|exact HS.out (Below.alN (Below.refl _ _) _).drew|exact HS.out (Below.alN (Below.refl _ _) _)|exact HS.out hb6|exact HS.out (Below.alN hb6 _)|exact HS.out (r9 (r9 (r9 (r9 hb6 (Nat.le_refl _)) (Nat.le_refl _)) (Nat.le_refl _)) (Nat.le_refl _)))
    ((first
      | (go_at_call 28;(with_reducible refine(HL.out _ (bj _)).mono ?_);rintro e w5⟨⟨y0,y1,y2,y3,kk,rfl,hy⟩,hb5⟩;have hb6:=(bj wr).trans hb5)
      | (go_at_call 28;(with_reducible refine(HL.out _ (Below.alN (Below.refl _ _) _).drew).mono ?_);rintro e w5⟨⟨y0,y1,y2,y3,kk,rfl,hy⟩,hb5⟩;have hb6:=g8 hb5 (Below.alN (Below.refl wr.heap.size wr) (.cells #[.int .i64 0,.int .i64 0,.int .i64 0,.int .i64 0] 29)).drew;have Z5:=Bk.keep hb5 Z0.drew;obtain⟨zz0,zz1,zz2,zz3,zzf⟩:=Z5.four;have zl5:=Z5.lt)))
   all_goals
    obtain⟨rfl,rfl,rfl,rfl,rfl,rfl⟩:=hy.out;obtain⟨D5,P5⟩:=hb0.out hb6;first
     | (have D6:=(r9 (r9 (r9 (r9 (u:=.int .i64 x0) (j:=0) D5 zle) (u:=.int .i64 x1) (j:=1) zle) (u:=.int .i64 x2) (j:=2) zle) (u:=.int .i64 x3) (j:=3) zle)
        have Q6:=Z5.set4 (.int .i64 x0) (.int .i64 x1) (.int .i64 x2) (.int .i64 x3);have P6:=(((P5.setO (b:=wr.heap.size) (j:=0) pne (.int .i64 x0)).setO (b:=wr.heap.size) (j:=1) pne (.int .i64 x1)).setO (b:=wr.heap.size) (j:=2) pne (.int .i64 x2)).setO (b:=wr.heap.size) (j:=3) pne (.int .i64 x3);clear p0 p1 p2 p3 pf lp HS HL hb0 Z0 Z5 hb5 hb6;obtain⟨p0,p1,p2,p3,_⟩:=P6.four;obtain⟨q0,q1,q2,q3,_⟩:=Q6.four;have lp:=P6.lt;have lq:=Q6.lt;go_wp2_with fail;go_ret;exact⟨by simp,D6⟩)
     | (have D6:=Below.alN D5 (.cells #[.int .i64 x0,.int .i64 x1,.int .i64 x2,.int .i64 x3] 29)
        have P6:=P5.alloc (.cells #[.int .i64 x0,.int .i64 x1,.int .i64 x2,.int .i64 x3] 29);have Q6:=i7 w5 #[.int .i64 x0,.int .i64 x1,.int .i64 x2,.int .i64 x3] 29;clear p0 p1 p2 p3 pf lp HS HL hb0 Z0 hb5 hb6;obtain⟨p0,p1,p2,p3,_⟩:=P6.four;obtain⟨q0,q1,q2,q3,_⟩:=Q6.four;have lp:=P6.lt;have lq:=Q6.lt;go_wp2_with fail;go_ret;exact⟨by simp,D6⟩)
end Go.Proofs.YtppbfikimalojaaGreat
namespace Go.Proofs.YtppbfikimalojaaGreat
open Tryz
open Go.ChangeShapes Go.WideShapes Go.RowKit Go.Deep
section
variable {H:Type}{enc:TypeId × Value->H}{W:World}{sp:Nat->Bool}{held:Bool}
end
end Go.Proofs.YtppbfikimalojaaGreat
