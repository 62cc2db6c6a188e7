/-
  XAS.
-/
import Derived.Test.YtjmclcmgpaofiaaGreatXLy
import Derived.Test.YtjmclcmgpaofiaaGreatXAH
import Derived.Deep.RegionHeld3
import Derived.Test.YtjmclcmgpaofiaaGreatXAR
import Derived.Test.YtjmclcmgpaofiaaGreatXAE
import Derived.Test.YtjmclcmgpaofiaaGreatXAL
set_option maxHeartbeats 8000000
set_option maxRecDepth 100000
namespace Go.Proofs.YtjmclcmgpaofiaaGreat
open Tryz
open Go.RowKit Go.Maps
theorem tK{W:World}{m:Mp}{ds:List Dv}{ls:List Lk}{A L:Option Addr}{c d G:Nat}(hM:MemAt W m ds ls 0 noM)(hD:Devs W W (.slice A ds.length c) ds)(hL:Links W W (.slice L ls.length d) ls)(hG:MapAt dG cO W G 0 (λ_=>none))(g1:G≠m.f)(g2:G≠m.o)(g3:G≠m.k) :
  WlAt (W.alloc (.cells #[.slice A ds.length c,.slice L ls.length d,.slice m.A ds.length m.cap,.slice m.L ls.length m.e9,.map (some m.f),.map (some m.o),.map (some m.k),.slice none 0 0,.map (some G)] 110)) ⟨W,m.f,m.o,m.k,m.A,m.cap,m.L,m.e9,A,c,L,d,G⟩ none 0 ds ls 0 noM []:=by
 have hb:Below W W (W.alloc (.cells #[.slice A ds.length c,.slice L ls.length d,.slice m.A ds.length m.cap,.slice m.L ls.length m.e9,.map (some m.f),.map (some m.o),.map (some m.k),.slice none 0 0,.map (some G)] 110)):=(Below.refl _ _).alloc (Nat.le_refl _) _;have hM':=hM.below hb;refine⟨ah W _ _,hD.below hb,hL.below hb,hM.devs.below hb,hM.links.below hb,hM'.fl,hM'.ow,hM'.bk,hM'.fo,hM'.fk,hM'.ok,⟨rfl,Or.inl ⟨rfl,rfl⟩⟩,?_,g1,g2,g3,⟨hM.fl.lt,hM.ow.lt,hM.bk.lt,hG.lt⟩,λx hx=>by cases hx⟩;rw[show inF ([]:List Arv)=λ_=>none from uP];exact hG.same (hb.block _ hG.lt)
def WNew(w:World)(ds:List Dv)(ls:List Lk)(e:Ending)(w':World):Prop :=
 Below w w w' /\ ((netV ds ls≠0 /\ e=.returned (.tuple #[.pointer none,(netV ds ls)])) \/
  (netV ds ls=0 /\ ∃p:Wp,e=.returned (.tuple #[.pointer (some ⟨p.B,0,none⟩),.int .i64 0]) /\ WlAt w' p none 0 ds ls 0 noM [] /\ w.heap.size<=p.f /\ w.heap.size<=p.o /\ w.heap.size<=p.k /\ w.heap.size<=p.B /\ w.heap.size<=p.G))
theorem kg(A L:Option Addr)(cap e9:Nat)(ds:List Dv)(ls:List Lk)(w:World)(hD:Hid (Devs w w (.slice A ds.length cap) ds))(hL:Hid (Links w w (.slice L ls.length e9) ls)) :
  Cl 10 #[.agg #[.slice A ds.length cap,.slice L ls.length e9]] w (WNew w ds ls):=by
 have N2:Hid (∀(W:World),Below w w W->Cl 35 #[.agg #[.slice A ds.length cap,.slice L ls.length e9]] W (oD W ds ls)):=λW h=>xD A L cap e9 ds ls W ((hD.out.below h).mono h.size) ((hL.out.below h).mono h.size);have D0:=Below.alN (Below.refl w w) (.cells #[.slice A ds.length cap,.slice L ls.length e9] 25);have N0:=ah w #[.slice A ds.length cap,.slice L ls.length e9] 25;obtain⟨n0,n1⟩:=N0.two;go_enter func10,ntmps10;go_wp2_with fail;refine(N2.out _ D0).mono ?_;rintro e w1⟨hb1,hN⟩;have D1:=aa hb1 D0;have N1:=N0.keep hb1;have z0:=D0.size;clear hb1 D0 N0 n0 n1 N2;rcases hN with⟨hne,rfl⟩|⟨hz,m,rfl,hM,l1,l2,l3,l4,q1,q2,q3⟩
 ·have hz1:(netV ds ls == 0)=false:=by simpa using hne
  generalize hnv:netV ds ls=nv at *;have HNZ:Hid (¬nv=0):=hne;clear hne;go_wp2_with fail;all_goals first|exact absurd ‹_› HNZ.out|skip
  go_ret2;exact⟨D1,.inl ⟨by rw[hnv];exact HNZ.out,by rw[hnv];rfl⟩⟩
 have CP:Hid (∀W,Below w w W->Cl 36 #[.agg #[.slice A ds.length cap,.slice L ls.length e9]] W (lJ W ds ls)):=λW h=>qB A L cap e9 ds ls W ((hD.out.below h).mono h.size) ((hL.out.below h).mono h.size) (oC hz);obtain⟨z,pre,post,ty,B,f,o,k,A2,c2,L2,d2⟩:=m;dsimp only at q1 q2 q3 l1 l2 l3 l4;subst q1 q2 q3;have HZ:Hid (netV ds ls=0):=hz;have fin:Hid (∀(W:World) (A':Option Addr) (c':Nat) (L':Option Addr) (d' G:Nat),MemAt W ⟨0,[],[],ty,B,f,o,k,A2,c2,L2,d2⟩ ds ls 0 noM->Devs W W (.slice A' ds.length c') ds->Links W W (.slice L' ls.length d') ls->MapAt dG cO W G 0 (λ_=>none)->w1.heap.size<=G->Below w w W->WNew w ds ls (.returned (.tuple #[.pointer (some ⟨W,0,none⟩),.int .i64 0])) (W.alloc (.cells #[.slice A' ds.length c',.slice L' ls.length d',.slice A2 ds.length c2,.slice L2 ls.length d2,.map (some f),.map (some o),.map (some k),.slice none 0 0,.map (some G)] 110))):=by
  intro W A' c' L' d' G h1 h2 h3 h4 h5 h6;have f1:=hM.fl.lt;have f2:=hM.ow.lt;have f3:=hM.bk.lt;dsimp only at f1 f2 f3;have z6:=h6.size;have z1:=D1.size;exact⟨Below.alN h6 _,.inr ⟨hz,_,rfl,tK h1 h2 h3 h4 (by show G≠f;omega) (by show G≠o;omega) (by show G≠k;omega),by show w.heap.size<=f;omega,by show w.heap.size<=o;omega,by show w.heap.size<=k;omega,by show w.heap.size<=W.heap.size;omega,by show w.heap.size<=G;omega⟩⟩
 obtain⟨Q,hQ⟩:∃Q:World->Prop,Q=λW=>MemAt W ⟨0,[],[],ty,B,f,o,k,A2,c2,L2,d2⟩ ds ls 0 noM /\ Bk W w.heap.size #[.slice A ds.length cap,.slice L ls.length e9] 25 /\ Below w w W:=⟨_,rfl⟩;have Q1:Q w1:=by rw[hQ];exact⟨hM,N1,D1⟩
 have FS:∀{w':World},Q w'->w'.cell? ⟨w,0,none⟩=some (.slice A ds.length cap) /\ w'.cell? ⟨w,1,none⟩=some (.slice L ls.length e9) /\ w'.cell? ⟨B,0,none⟩=some (.slice A2 ds.length c2) /\ w'.cell? ⟨B,1,none⟩=some (.slice L2 ls.length d2) /\ w'.cell? ⟨B,2,none⟩=some (.map (some f)) /\ w'.cell? ⟨B,3,none⟩=some (.map (some o)) /\ w'.cell? ⟨B,4,none⟩=some (.map (some k)):=λ{w'} h=>by
  rw[hQ]at h;have h1:=h.1.cells;simp only[Nat.zero_add]at h1;exact⟨h.2.1.at 0,h.2.1.at 1,h1⟩
 have KP:∀{W W':World},Q W->Below W W W'->Q W':=λ{W W'} h hb=>by
  rw[hQ]at h ⊢;exact⟨h.1.below hb,h.2.1.keep hb,aa hb h.2.2⟩
 have AL:∀{W:World} (o:Obj),Q W->Q (W.alloc o):=λo h=>KP h ((Below.refl _ _).alloc (Nat.le_refl _) o);have DR:∀{W:World},Q W->Q W.drew:=λh=>KP h (Below.refl _ _).drew;have CQ:Hid (∀W,Q W->Cl 36 #[.agg #[.slice A ds.length cap,.slice L ls.length e9]] W λe w'=>∃A' c' L' d',e=.returned (.agg #[.slice A' ds.length c',.slice L' ls.length d']) /\ Hid (Devs w' w' (.slice A' ds.length c') ds /\ Links w' w' (.slice L' ls.length d') ls) /\ Below W W w'):=λW h=>(CP.out W (by rw[hQ]at h;exact h.2.2)).mono λe w' ⟨A',c',L',d',h1,h2,h3,h4⟩=>⟨A',c',L',d',h1,⟨h2,h3⟩,h4⟩;have fin2:Hid (∀(W:World) (A':Option Addr) (c':Nat) (L':Option Addr) (d' G:Nat),Q W->Devs W W (.slice A' ds.length c') ds->Links W W (.slice L' ls.length d') ls->MapAt dG cO W G 0 (λ_=>none)->w1.heap.size<=G->WNew w ds ls (.returned (.tuple #[.pointer (some ⟨W,0,none⟩),.int .i64 0])) (W.alloc (.cells #[.slice A' ds.length c',.slice L' ls.length d',.slice A2 ds.length c2,.slice L2 ls.length d2,.map (some f),.map (some o),.map (some k),.slice none 0 0,.map (some G)] 110))):=λW A' c' L' d' G h h2 h3 h4 h5=>by
  rw[hQ]at h;exact fin.out W A' c' L' d' G h.1 h2 h3 h4 h5 h.2.2
 generalize WNew w ds ls=WN at *;have G1:Hid (MapAt dG cO (w1.alloc (.map #[] 0)).drew w1.heap.size 0 (λ_=>none)):=lN dG cO w1;have Q1d:=DR Q1;have Q1a:=DR (AL (.map #[] 0) Q1);obtain⟨a0,a1,a2,a3,a4,a5,a6⟩:=FS Q1;clear fin CP HZ hz hM D1 N1 hQ hD hL l1 l2 l3 l4 z0;have hmm:=@run_makeMap prog;go_upto_region 4 with fail;go_region_held3 (λw'=>w'.cell? ⟨w,0,none⟩=some (.slice A ds.length cap) /\ w'.cell? ⟨w,1,none⟩=some (.slice L ls.length e9) /\ w'.cell? ⟨B,0,none⟩=some (.slice A2 ds.length c2) /\ w'.cell? ⟨B,1,none⟩=some (.slice L2 ls.length d2) /\ w'.cell? ⟨B,2,none⟩=some (.map (some f)) /\ w'.cell? ⟨B,3,none⟩=some (.map (some o)) /\ w'.cell? ⟨B,4,none⟩=some (.map (some k))) (exact FS (by first|exact Q2|exact AL _ Q2|exact AL _ (AL _ Q2)|exact Q1a|exact Q1d)) (first|(go_at_call 36;(with_reducible refine(CQ.out _ Q1d).mono ?_);rintro e w2⟨A',c',L',d',rfl,hC,hb2⟩;have Q2:=KP Q1d hb2;have zz:=hb2.size)|(go_at_call 36;(with_reducible refine(CQ.out _ Q1a).mono ?_);rintro e w2⟨A',c',L',d',rfl,hC,hb2⟩;have Q2:=KP Q1a hb2;have G2:=G1.out.same (hb2.block _ G1.out.lt)))
 all_goals
  go_wp2_with fail;first
   | exact fin2.out _ _ _ _ _ _ Q2 hC.out.1 hC.out.2 G2 (Nat.le_refl _)
   | (have hf:=fin2.out _ _ _ _ _ _ (AL _ Q2) ((hC.out.1.below ((Below.refl _ _).alloc (Nat.le_refl _) _)).mono (by simp)) ((hC.out.2.below ((Below.refl _ _).alloc (Nat.le_refl _) _)).mono (by simp)) (lN dG cO w2) zz;rw[World.size_alloc]at hf;exact hf)
def dD(nm:ByteArray)(a:Int)(h:nm.size<=maxLen):Dv:=⟨nm,1,a,0,[],[],[],by omega,h⟩
def aD(d:Dv):List Dv:=[dD ⟨#[105,110]⟩ 1 (by decide),{ d with name:=⟨#[100]⟩,hs:=by decide },dD ⟨#[111,117,116]⟩ 2 (by decide)]
def chainL:List Lk:=[⟨0,0,1,0⟩,⟨1,1,2,0⟩]
theorem mE:checkV []=0:=by
 unfold checkV;rw[if_neg (by simp),jc (by simp)]
theorem mF(ad:Int):bg [] ad 0=0:=by
 unfold bg;simp
theorem mG(nm:ByteArray)(a:Int)(h:nm.size<=maxLen)(h0:0<=a)(h1:a<=15):aE (dD nm a h)=0:=by
 unfold aE dw dD;simp[hasAddr,mE,mF,h0,h1]
theorem tL(d:Dv)(hk:d.kind=3\/d.kind=4\/d.kind=5):netV (aD d) chainL=aE d:=by
 have e0:bE (aD d) 0 (dD ⟨#[105,110]⟩ 1 (by decide))=0:=by
  unfold bE;rw[if_pos (by decide),if_neg (by simp),mG _ _ _ (by omega) (by omega)]
 have e1:bE (aD d) 1 { d with name:=⟨#[100]⟩,hs:=by decide }=aE d:=by
  unfold bE;rw[if_pos (show nameOk ⟨#[100]⟩=true by decide),if_neg]
  ·rfl
  ·simp[aD,dD]
 have e2:bE (aD d) 2 (dD ⟨#[111,117,116]⟩ 2 (by decide))=0:=by
  unfold bE;rw[if_pos (by decide),if_neg,mG _ _ _ (by omega) (by omega)];simp[aD,dD]
 have ld:(aD d).length=3:=rfl;have ll:chainL.length=2:=rfl;have pd:portsV d.kind=2:=by
  unfold portsV;rcases hk with h|h|h <;> rw[h] <;> rfl
 unfold netV;rw[if_neg (by rw[ld,ll];omega)];rw[dL (d:=dD ⟨#[105,110]⟩ 1 (by decide)) rfl,if_pos e0,dL (d:={ d with name:=⟨#[100]⟩,hs:=by decide }) rfl,e1];by_cases hz:aE d=0
 ·rw[if_pos hz,dL (d:=dD ⟨#[111,117,116]⟩ 2 (by decide)) rfl,if_pos e2,kA (by rw[ld];omega),if_pos rfl,hz];have k0:aW (aD d) 0=1:=rfl;have k1:aW (aD d) 1=d.kind:=rfl;have k2:aW (aD d) 2=1:=rfl;have p1:portsV 1=1:=rfl;have l0:cJ (aD d) chainL 0 ⟨0,0,1,0⟩=0:=by
   unfold cJ isPl;simp[ld,k0,k1,pd,p1,selfB]
  have l1:cJ (aD d) chainL 1 ⟨1,1,2,0⟩=0:=by
   unfold cJ isPl;simp[ld,k1,k2,pd,p1,selfB,chainL,meetB]
  rw[fZ (l:=⟨0,0,1,0⟩) rfl,if_pos l0,fZ (l:=⟨1,1,2,0⟩) rfl,if_pos l1,kB (by rw[ll];omega)]
 ·rw[if_neg hz,if_neg hz]
theorem row21{w:World}{b:Nat}{d:Dv}{vb vr vt:Value}(h:Bk w b #[.string ⟨#[105,110]⟩,.int .i64 1,.int .i64 1,.int .u8 0,.slice none 0 0,.slice none 0 0,.slice none 0 0,.string ⟨#[100]⟩,d.kind,d.addr,.int .u8 (d.pool:Int),vb,vr,vt,.string ⟨#[111,117,116]⟩,.int .i64 1,.int .i64 2,.int .u8 0,.slice none 0 0,.slice none 0 0,.slice none 0 0] 70)
  (hb:SlAt w w 1 IsI vb d.backs) (hr:SlAt w w 5 aY vr d.rules) (ht:SlAt w w 3 br vt d.routes):Devs w w (.slice b 3 3) (aD d):=by
 have nil:∀{α:Type} (n:Nat) (R:List Value->α->Prop),SlAt w w n R (.slice none 0 0) []:=λn R=>⟨none,0,rfl,λ_=>rfl,Nat.le_refl _,Nat.zero_le _,λh=>absurd rfl h⟩;refine⟨some ⟨b,0,none⟩,3,rfl,(λe=>by cases e),Nat.le_refl _,by decide,λ_=>⟨b,0,rfl,h.lt,λk x hx=>?_⟩⟩
 match k,hx with
 | 0,hx =>
   obtain rfl:=Option.some.inj hx;refine⟨[.string ⟨#[105,110]⟩,.int .i64 1,.int .i64 1,.int .u8 0,.slice none 0 0,.slice none 0 0,.slice none 0 0],rfl,⟨_,_,_,rfl,nil _ _,nil _ _,nil _ _⟩,λj u hj=>?_⟩;have hj7:j<7:=(List.getElem?_eq_some_iff.1 hj).1;rw[show 0+0*7+j=j by omega,h.at]
   match j,hj7,hj with
   | 0,_,hj=>exact hj
   | 1,_,hj=>exact hj
   | 2,_,hj=>exact hj
   | 3,_,hj=>exact hj
   | 4,_,hj=>exact hj
   | 5,_,hj=>exact hj
   | 6,_,hj=>exact hj
 | 1,hx =>
   obtain rfl:=Option.some.inj hx;refine⟨[.string ⟨#[100]⟩,.int .i64 d.kind,.int .i64 d.addr,.int .u8 (d.pool:Int),vb,vr,vt],rfl,⟨_,_,_,rfl,hb,hr,ht⟩,λj u hj=>?_⟩;have hj7:j<7:=(List.getElem?_eq_some_iff.1 hj).1;rw[show 0+1*7+j=7+j by omega,h.at]
   match j,hj7,hj with
   | 0,_,hj=>exact hj
   | 1,_,hj=>exact hj
   | 2,_,hj=>exact hj
   | 3,_,hj=>exact hj
   | 4,_,hj=>exact hj
   | 5,_,hj=>exact hj
   | 6,_,hj=>exact hj
 | 2,hx =>
   obtain rfl:=Option.some.inj hx;refine⟨[.string ⟨#[111,117,116]⟩,.int .i64 1,.int .i64 2,.int .u8 0,.slice none 0 0,.slice none 0 0,.slice none 0 0],rfl,⟨_,_,_,rfl,nil _ _,nil _ _,nil _ _⟩,λj u hj=>?_⟩;have hj7:j<7:=(List.getElem?_eq_some_iff.1 hj).1;rw[show 0+2*7+j=14+j by omega,h.at]
   match j,hj7,hj with
   | 0,_,hj=>exact hj
   | 1,_,hj=>exact hj
   | 2,_,hj=>exact hj
   | 3,_,hj=>exact hj
   | 4,_,hj=>exact hj
   | 5,_,hj=>exact hj
   | 6,_,hj=>exact hj
theorem row8{w:World}{b:Nat}(h:Bk w b #[.int .i64 0,.int .i64 0,.int .i64 1,.int .i64 0,.int .i64 1,.int .i64 1,.int .i64 2,.int .i64 0] 118):Links w w (.slice b 2 2) chainL:=by
 refine⟨some ⟨b,0,none⟩,2,rfl,(λe=>by cases e),Nat.le_refl _,by decide,λ_=>⟨b,0,rfl,h.lt,λk x hx=>?_⟩⟩
 match k,hx with
 | 0,hx =>
   obtain rfl:=Option.some.inj hx;refine⟨[.int .i64 0,.int .i64 0,.int .i64 1,.int .i64 0],rfl,rfl,λj u hj=>?_⟩;have hj7:j<4:=(List.getElem?_eq_some_iff.1 hj).1;rw[show 0+0*4+j=j by omega,h.at]
   match j,hj7,hj with
   | 0,_,hj=>exact hj
   | 1,_,hj=>exact hj
   | 2,_,hj=>exact hj
   | 3,_,hj=>exact hj
 | 1,hx =>
   obtain rfl:=Option.some.inj hx;refine⟨[.int .i64 1,.int .i64 1,.int .i64 2,.int .i64 0],rfl,rfl,λj u hj=>?_⟩;have hj7:j<4:=(List.getElem?_eq_some_iff.1 hj).1;rw[show 0+1*4+j=4+j by omega,h.at]
   match j,hj7,hj with
   | 0,_,hj=>exact hj
   | 1,_,hj=>exact hj
   | 2,_,hj=>exact hj
   | 3,_,hj=>exact hj
theorem tM(d:Dv)(vb vr vt:Value)(w:World)(hb:SlAt w w 1 IsI vb d.backs)(hr:SlAt w w 5 aY vr d.rules)(ht:SlAt w w 3 br vt d.routes) :
  Cl 19 #[.agg #[.string d.name,d.kind,d.addr,.int .u8 (d.pool:Int),vb,vr,vt]] w λe w'=>∃b b',e=.returned (.agg #[.slice (some ⟨b,0,none⟩) 3 3,.slice (some ⟨b',0,none⟩) 2 2]) /\ Devs w' w' (.slice (some ⟨b,0,none⟩) 3 3) (aD d) /\ Links w' w' (.slice (some ⟨b',0,none⟩) 2 2) chainL /\ Below w w w':=by
 have fin:Hid (∀(w':World) (b b':Nat),Below w w w'->Bk w' b #[.string ⟨#[105,110]⟩,.int .i64 1,.int .i64 1,.int .u8 0,.slice none 0 0,.slice none 0 0,.slice none 0 0,.string ⟨#[100]⟩,d.kind,d.addr,.int .u8 (d.pool:Int),vb,vr,vt,.string ⟨#[111,117,116]⟩,.int .i64 1,.int .i64 2,.int .u8 0,.slice none 0 0,.slice none 0 0,.slice none 0 0] 70->Bk w' b' #[.int .i64 0,.int .i64 0,.int .i64 1,.int .i64 0,.int .i64 1,.int .i64 1,.int .i64 2,.int .i64 0] 118->Devs w' w' (.slice (some ⟨b,0,none⟩) 3 3) (aD d) /\ Links w' w' (.slice (some ⟨b',0,none⟩) 2 2) chainL /\ Below w w w'):=λw' b b' h k1 k2 =>
  ⟨row21 k1 (SlAt.mono (SlAt.below hb h (λ_ _ _ h=>h)) h.size (λ_ _ _ h=>h)) (SlAt.mono (SlAt.below hr h (λ_ _ _ h=>h)) h.size (λ_ _ _ h=>h)) (SlAt.mono (SlAt.below ht h (λ_ _ _ h=>h)) h.size (λ_ _ _ h=>h)),row8 k2,h⟩
 obtain⟨Ab,cb,rfl,_,_,_,_⟩:=hb;obtain⟨Ar,cr,rfl,_,_,_,_⟩:=hr;obtain⟨At,ct,rfl,_,_,_,_⟩:=ht;generalize d.name=nm at *;generalize d.kind=kd at *;generalize d.addr=ad at *;generalize d.pool=pl at *;generalize d.backs.length=nb at *;generalize d.rules.length=nr at *;generalize d.routes.length=nt at *;go_enter func19,ntmps19;go_wp2_with fail;refine bodyPost_ret (v:=.agg #[.slice (some ⟨w.heap.size+1+1,0,none⟩) 3 3,.slice (some ⟨w.heap.size+1+1+1,0,none⟩) 2 2]) (by simp[results,results19,go_sem]) rfl ⟨_,_,rfl,?_⟩;exact fin.out _ _ _ (by go_grown) ((ax _ _ _ _ (by simp)).alloc _) (ax _ _ _ _ (by simp))
theorem tN(x y:Int)(w:World):CB 23 #[x,y] w (plA x y):=by
 go_enter func23,ntmps23;go_wp2_with fail;refine bodyPost_ret (v:=plA x y) (by simp[results,results23,go_sem]) rfl ⟨rfl,?_⟩;exact Below.alN (Below.refl _ _) _
theorem tO(w:World):CB 52 #[] w (.agg #[.int .u16 65535,.int .u16 65535,.int .u8 255,.int .u8 255]):=by
 go_enter func52,ntmps52;go_wp2_with fail;refine bodyPost_ret (v:=.agg #[.int .u16 65535,.int .u16 65535,.int .u8 255,.int .u8 255]) (by simp[results,results52,go_sem]) rfl ⟨rfl,?_⟩;exact Below.alN (Below.refl _ _) _
theorem tP(ok:Bool)(w:World):CB 20 #[.bool ok] w (.agg #[.bool ok,.int .u16 65535,.int .u16 65535,.int .u8 255,.int .u8 255]):=by
 have R1:=ah w #[.bool false,.int .u16 0,.int .u16 0,.int .u8 0,.int .u8 0] 64;have D1:=Below.alN (Below.refl w w) (.cells #[.bool false,.int .u16 0,.int .u16 0,.int .u8 0,.int .u8 0] 64);go_enter func20,ntmps20;go_wp2_with fail;refine(tO _).mono ?_;rintro e w2⟨rfl,hb2⟩;have R2:=R1.keep hb2;have D2:=aa hb2 D1;obtain⟨r0,r1,r2,r3,r4⟩:=R2.five;have f0:=R2.fz 0;have f1:=R2.fz 1;have f2:=R2.fz 2;have f3:=R2.fz 3;have f4:=R2.fz 4;go_wp2_with fail;refine bodyPost_ret (v:=.agg #[.bool ok,.int .u16 65535,.int .u16 65535,.int .u8 255,.int .u8 255]) (by simp[results,results20,go_sem,r0,r1,r2,r3,r4]) rfl ⟨rfl,?_⟩
 go_grown
def aX(rs:List NRule):Dv:=⟨⟨#[]⟩,3,0,0,[],rs,[],by omega,Nat.zero_le _⟩
def bZ(ok:Bool):NRule:=⟨ok,65535,65535,255,255,by omega,by omega,by omega,by omega⟩
def iL(r:NRule):Rl:=⟨r.ok,r.a,r.b,r.c,r.d,r.ha,r.hb,r.hc,r.hd⟩
theorem tQ(rs:List NRule):aE (aX rs)=if 8<rs.length then 2 else 0:=by
 unfold aE dw aX;simp[hasAddr,mE,mF]
theorem tR(rs:List NRule):netV (aD (aX rs)) chainL=if 8<rs.length then 2 else 0:=by
 rw[tL _ (Or.inl rfl),tQ]
theorem tS(d:Dv)(hk:d.kind=3\/d.kind=4\/d.kind=5):isPl (aD d) 1 0=true /\ isPl (aD d) 1 1=true:=by
 have pd:portsV d.kind=2:=by
  unfold portsV;rcases hk with h|h|h <;> rw[h] <;> rfl
 have k1:aW (aD d) 1=d.kind:=rfl;have ld:(aD d).length=3:=rfl;unfold isPl;simp[ld,k1,pd]
theorem tT:peerF chainL 1 1=some (2,0):=by decide
theorem tU(rs:List NRule)(M:Mnd)(p:Pk)(c:Int):aB (aD (aX rs)) chainL M 1 0 p c=if ae p then(if letsB (rs.map iL) p.s p.d p.sp p.dp then⟨0,(2,0),p,learnP M (.flow 1 p)⟩else aZ 7 M)else aZ 1 M:=by
 have e:sendP ((aD (aX rs)).getD (1:Int).toNat default) M 1 0 p c=if letsB (rs.map iL) p.s p.d p.sp p.dp then⟨0,1,p,.flow 1 p⟩else aF 7:=rfl
 unfold aB;rw[(tS (aX rs) (Or.inl rfl)).1,e];cases ae p
 ·rfl
 ·cases letsB (rs.map iL) p.s p.d p.sp p.dp
  ·rfl
  ·simp[tT]
theorem tV:letsB ([bZ true].map iL) 1 2 0 0=true:=by
 have:=wG (ok:=true) (p:=1) (q:=2) (s:=0) (t:=0) (by omega) (by omega) (by omega) (by omega);show(if inR (allR true) 1 2 0 0 then true else _)=true;rw[if_pos this]
theorem WlAt.sblk{W:World}{p:Wp}{S:Option Addr}{cS:Nat}{ds:List Dv}{ls:List Lk}{n:Nat}{M:Mnd}{ar:List Arv}(h:WlAt W p S cS ds ls n M ar):∀a,S=some a->p.B+1<=a.block /\ a.block<W.heap.size:=λa ha=>by
 rcases h.seen.2 with⟨e,_⟩|⟨g,cap,cur,e,hb,hh,_⟩
 ·have:=(Value.slice.inj e).1;rw[ha]at this;cases this
 ·have:=(Value.slice.inj e).1;rw[ha]at this;cases this;exact⟨hb,(Array.getElem?_eq_some_iff.1 hh).1⟩
def LoW(w:World)(p:Wp):Prop:=w.heap.size<=p.f /\ w.heap.size<=p.o /\ w.heap.size<=p.k /\ w.heap.size<=p.B /\ w.heap.size<=p.G
theorem kh{w W W':World}{p:Wp}{S:Option Addr}{cS:Nat}{ds:List Dv}{ls:List Lk}{n:Nat}{M:Mnd}{ar:List Arv}(h:WlAt W p S cS ds ls n M ar)(lo:LoW w p)(hb:Below w w W)(hf:WF p S W W'):Below w w W':=by
 obtain⟨l1,l2,l3,l4,l5⟩:=lo;exact hb.trans ⟨hf.os,hf.tape,hf.output,hf.size,λb hb'=>hf.block b (Nat.lt_of_lt_of_le hb' hb.size) (by omega) (by omega) (by omega) (by omega) (by omega) (λa ha=>by have:=(h.sblk a ha).1;omega)⟩
theorem ki{W W':World}{p:Wp}{S:Option Addr}{cS:Nat}{ds:List Dv}{ls:List Lk}{n:Nat}{M:Mnd}{ar:List Arv}(h:WlAt W p S cS ds ls n M ar){P:Nat}{c:Array Value}{t:TypeId}(hB:Bk W P c t)(hP:p.B<P)(hS:∀a,S=some a->a.block≠P)(hf:WF p S W W'):Bk W' P c t:=by
 obtain⟨l1,l2,l3,l4⟩:=h.lo;exact(hf.block P hB.lt (by omega) (by omega) (by omega) (by omega) (by omega) (λa ha e=>hS a ha e.symm)).trans hB
theorem tW:doP (aD (aX [bZ true])) chainL noM [] ⟨1,0,0,⟨1,2,0,0⟩,0⟩=(0,noM,[((1,0),⟨1,2,0,0⟩)]):=by
 unfold doP;rw[if_pos rfl];have e:injP (aD (aX [bZ true])) chainL [] 0 ⟨1,2,0,0⟩=(0,[((1,0),⟨1,2,0,0⟩)]):=by
  unfold injP;have e1:((aD (aX [bZ true])).getD (0:Int).toNat default).kind=1:=rfl;have e2:(⟨1,2,0,0⟩:Pk).s=((aD (aX [bZ true])).getD (0:Int).toNat default).addr:=rfl;rw[if_pos (by decide),if_pos e1,if_pos (by decide),if_pos e2,show peerF chainL 0 0=some (1,0) by decide];have e3:addA [] (((1,0),⟨1,2,0,0⟩):Arv)=[((1,0),⟨1,2,0,0⟩)]:=by
   unfold addA;rw[if_neg (by simp)];rfl
  show((0:Int),addA [] (((1,0),⟨1,2,0,0⟩):Arv))=_;rw[e3]
 rw[e]
theorem mH:aB (aD (aX [bZ true])) chainL noM 1 0 ⟨1,2,0,0⟩ 0=⟨0,(2,0),⟨1,2,0,0⟩,learnP noM (.flow 1 ⟨1,2,0,0⟩)⟩:=by
 rw[tU,if_pos (by decide),if_pos tV]
theorem tX:doP (aD (aX [bZ true])) chainL noM [((1,0),⟨1,2,0,0⟩)] ⟨2,1,0,⟨1,2,0,0⟩,0⟩=(0,learnP noM (.flow 1 ⟨1,2,0,0⟩),[((1,0),⟨1,2,0,0⟩),((2,0),⟨1,2,0,0⟩)]):=by
 unfold doP;rw[if_neg (by decide),if_pos rfl];unfold hopP;rw[if_pos (inF_in.2 (by simp)),mH];dsimp only;rw[if_pos rfl];unfold addA;rw[if_neg (by simp)];rfl
theorem ok2:aj 2:=cN (by decide) (by decide)
theorem ec:aj 0:=cN (by decide) (by decide)
theorem ok1W:aj 1:=cN (by decide) (by decide)
theorem iM:Pk.ok ⟨1,2,0,0⟩:=⟨ok1W,ok2,ec,ec⟩
theorem tY(w:World):CB 6 #[] w (.bool true):=by
 have nilS:∀{α:Type} (W:World) (n:Nat) (R:List Value->α->Prop),SlAt W W n R (.slice none 0 0) []:=λW n R=>⟨none,0,rfl,λ_=>rfl,Nat.le_refl _,Nat.zero_le _,λh=>absurd rfl h⟩;have CH:Hid (∀(rs:List NRule) (vr:Value) (W:World),SlAt W W 5 aY vr rs->Cl 19 #[.agg #[.string ⟨#[]⟩,.int .i64 3,.int .i64 0,.int .u8 0,.slice none 0 0,vr,.slice none 0 0]] W λe w'=>∃b b',e=.returned (.agg #[.slice (some ⟨b,0,none⟩) 3 3,.slice (some ⟨b',0,none⟩) 2 2]) /\ Devs w' w' (.slice (some ⟨b,0,none⟩) 3 3) (aD (aX rs)) /\ Links w' w' (.slice (some ⟨b',0,none⟩) 2 2) chainL /\ Below W W w'):=λrs vr W h=>tM (aX rs) (.slice none 0 0) vr (.slice none 0 0) W (nilS _ _ _) h (nilS _ _ _);have NW:Hid (∀(rs:List NRule) (b b':Nat) (W:World),Devs W W (.slice (some ⟨b,0,none⟩) 3 3) (aD (aX rs))->Links W W (.slice (some ⟨b',0,none⟩) 2 2) chainL->Cl 10 #[.agg #[.slice (some ⟨b,0,none⟩) 3 3,.slice (some ⟨b',0,none⟩) 2 2]] W (WNew W (aD (aX rs)) chainL)):=λrs b b' W h1 h2=>kg (some ⟨b,0,none⟩) (some ⟨b',0,none⟩) 3 2 (aD (aX rs)) chainL W h1 h2;have PLC:Hid (∀(x y:Int) W,CB 23 #[x,y] W (plA x y)):=λx y W=>tN x y W;have D0:=Below.refl w w;have hzz:netV (aD (aX [bZ true])) chainL=0:=by rw[tR];rfl
 have HZ:Hid (netV (aD (aX [bZ true])) chainL=0):=hzz;clear hzz;go_enter func6,ntmps6;go_wp2_with fail;refine(tP true _).mono ?_;rintro e w1⟨rfl,hb1⟩;have D1:=Below.alN (aa hb1 D0) (.cells #[.bool true,.int .u16 65535,.int .u16 65535,.int .u8 255,.int .u8 255] 64);have R1:SlAt (w1.alloc (.cells #[.bool true,.int .u16 65535,.int .u16 65535,.int .u8 255,.int .u8 255] 64)).heap.size (w1.alloc (.cells #[.bool true,.int .u16 65535,.int .u16 65535,.int .u8 255,.int .u8 255] 64)) 5 aY (.slice (some ⟨w1,0,none⟩) 1 1) [bZ true]:=by
  have hB:=ah w1 #[.bool true,.int .u16 65535,.int .u16 65535,.int .u8 255,.int .u8 255] 64;refine⟨_,1,rfl,(λe=>by cases e),Nat.le_refl _,by decide,λ_=>⟨w1,0,rfl,hB.lt,λk x hx=>?_⟩⟩
  match k,hx with
  | 0,hx =>
    obtain rfl:=Option.some.inj hx;refine⟨[.bool true,.int .u16 65535,.int .u16 65535,.int .u8 255,.int .u8 255],rfl,rfl,λj u hj=>?_⟩;rw[show 0+0*5+j=j by omega,hB.at];have hj5:j<5:=(List.getElem?_eq_some_iff.1 hj).1
    match j,hj5,hj with
    | 0,_,hj=>exact hj
    | 1,_,hj=>exact hj
    | 2,_,hj=>exact hj
    | 3,_,hj=>exact hj
    | 4,_,hj=>exact hj
 clear hb1 D0;go_wp2_with fail;refine(CH.out _ _ _ R1).mono ?_;rintro e w2⟨b,b',rfl,hD2,hL2,hb2⟩;have D2:=aa hb2 D1;clear hb2 D1 R1;go_wp2_with fail;refine(NW.out _ _ _ _ hD2 hL2).mono ?_;rintro e w3⟨hb3,hN⟩;have D3:=aa hb3 D2;have z2:=D2.size;clear hb3 D2 hD2 hL2;rcases hN with⟨hne,_⟩|⟨_,p,rfl,hW,l1,l2,l3,l4,l5⟩
 ·exact absurd HZ.out hne
 have LO:Hid (LoW w p):=⟨by omega,by omega,by omega,by omega,by omega⟩;have zB:=hW.blk.lt;obtain⟨Q,hQ⟩:∃Q:Nat->Mnd->List Arv->World->Prop,Q=λn M ar W=>∃S cS,WlAt W p S cS (aD (aX [bZ true])) chainL n M ar /\ Bk W w3.heap.size #[.int .i64 1,.int .i64 2,.int .i64 0,.int .i64 0] 37 /\ Below w w W /\ ∀a,S=some a->a.block≠w3.heap.size:=⟨_,rfl⟩;have Q0:Q 0 noM [] (w3.alloc (.cells #[.int .i64 1,.int .i64 2,.int .i64 0,.int .i64 0] 37)):=by
  rw[hQ];exact⟨none,0,hW.alloc _,ah _ _ _,Below.alN D3 _,λa ha=>by cases ha⟩
 have FS:∀{n:Nat} {M:Mnd} {ar:List Arv} {w':World},Q n M ar w'->(w'.cell? ⟨w3,0,none⟩=some (.int .i64 1) /\ w'.cell? ⟨w3,1,none⟩=some (.int .i64 2) /\ w'.cell? ⟨w3,2,none⟩=some (.int .i64 0) /\ w'.cell? ⟨w3,3,none⟩=some (.int .i64 0)):=λ{n M ar w'} h=>by
  rw[hQ]at h;obtain⟨S,cS,_,h2,_⟩:=h;exact⟨h2.at 0,h2.at 1,h2.at 2,h2.at 3⟩
 have KP:∀{n:Nat} {M:Mnd} {ar:List Arv} {W W':World},Q n M ar W->Below W W W'->Q n M ar W':=λ{n M ar W W'} h hb=>by
  rw[hQ]at h ⊢;obtain⟨S,cS,h1,h2,h3,h4⟩:=h;exact⟨S,cS,h1.below hb,h2.keep hb,aa hb h3,h4⟩
 have BE:∀{n:Nat} {M:Mnd} {ar:List Arv} {W:World},Q n M ar W->Below w w W:=λ{n M ar W} h=>by
  rw[hQ]at h;obtain⟨S,cS,h1,h2,h3,h4⟩:=h;exact h3
 have DO:Hid (∀(x:Ev) (n:Nat) (M:Mnd) (ar:List Arv) (r:Int × Mnd × List Arv),x.ok->doP (aD (aX [bZ true])) chainL M ar x=r->((aB (aD (aX [bZ true])) chainL M x.i x.q x.p x.c).err=0->cK ((aB (aD (aX [bZ true])) chainL M x.i x.q x.p x.c).tp,(aB (aD (aX [bZ true])) chainL M x.i x.q x.p x.c).p))->n<=10->ar.length<=5000->∀W,Q n M ar W->Cl 12 #[.pointer (some ⟨p.B,0,none⟩),.agg #[x.k,x.i,x.q,x.p.s,x.p.d,x.p.sp,x.p.dp,x.c]] W λe w'=>e=.returned r.1 /\ Q (n+1+1) r.2.1 r.2.2 w'):=λx n M ar r hx hr hO hn ha W h=>by
  rw[hQ]at h;obtain⟨S,cS,h1,h2,h3,h4⟩:=h;refine(kv x W h1 hx HZ hO (by unfold maxLen;omega) ha).mono λe w' ⟨e1,S',cS',q1,q2,q3⟩=>?_;rw[hr]at e1 q1;refine⟨e1,?_⟩;rw[hQ];refine⟨S',cS',q1,ki h1 h2 (by omega) h4 q2,kh h1 LO.out h3 q2,λa ha=>?_⟩;have hz:=h2.lt;rcases q3 a ha with⟨a',e1,e2⟩|hl
  ·rw[<- e2];exact h4 a' e1
  ·omega
 have DO1:Hid (∀W,Q 0 noM [] W->Cl 12 #[.pointer (some ⟨p.B,0,none⟩),.agg #[.int .i64 1,.int .i64 0,.int .i64 0,.int .i64 1,.int .i64 2,.int .i64 0,.int .i64 0,.int .i64 0]] W λe w'=>e=.returned (.int .i64 0) /\ Q (0+1+1) noM [((1,0),⟨1,2,0,0⟩)] w'):=DO.out ⟨1,0,0,⟨1,2,0,0⟩,0⟩ 0 noM [] _ ⟨ec,ec,iM,ec⟩ tW (λhe=>absurd he (by
  have:(aB (aD (aX [bZ true])) chainL noM 0 0 ⟨1,2,0,0⟩ 0)=aZ 7 noM:=by
   unfold aB;rw[if_pos (by decide),if_pos (by decide)];have e:sendP ((aD (aX [bZ true])).getD (0:Int).toNat default) noM 0 0 ⟨1,2,0,0⟩ 0=aF 7:=rfl;rw[e,if_neg (by decide)];rfl
  dsimp only;rw[this];exact(by decide:¬(7:Int)=0))) (by omega) (by simp)
 have DO2:Hid (∀W,Q (0+1+1) noM [((1,0),⟨1,2,0,0⟩)] W->Cl 12 #[.pointer (some ⟨p.B,0,none⟩),.agg #[.int .i64 2,.int .i64 1,.int .i64 0,.int .i64 1,.int .i64 2,.int .i64 0,.int .i64 0,.int .i64 0]] W λe w'=>e=.returned (.int .i64 0) /\ Q (0+1+1+1+1) (learnP noM (.flow 1 ⟨1,2,0,0⟩)) [((1,0),⟨1,2,0,0⟩),((2,0),⟨1,2,0,0⟩)] w'):=DO.out ⟨2,1,0,⟨1,2,0,0⟩,0⟩ 2 noM [((1,0),⟨1,2,0,0⟩)] _ ⟨ok1W,ec,iM,ec⟩ tX (λ_=>by dsimp only;rw[mH];exact⟨ok2,ec,iM⟩) (by omega) (by simp);have HAS:Hid (∀W,Q (0+1+1+1+1) (learnP noM (.flow 1 ⟨1,2,0,0⟩)) [((1,0),⟨1,2,0,0⟩),((2,0),⟨1,2,0,0⟩)] W->CB 11 #[.pointer (some ⟨p.B,0,none⟩),plA 2 0,.agg #[.int .i64 1,.int .i64 2,.int .i64 0,.int .i64 0]] W (.bool true)):=λW h=>by
  rw[hQ]at h;obtain⟨S,cS,h1,h2,h3,h4⟩:=h;refine(gZ ((2,0),⟨1,2,0,0⟩) W h1 ⟨ok2,ec,iM⟩).mono λe w' ⟨e1,e2⟩=>⟨?_,e2⟩;rw[e1,show(inF [((1,0),⟨1,2,0,0⟩),((2,0),⟨1,2,0,0⟩)] ((2,0),⟨1,2,0,0⟩)).isSome=true from inF_in.2 (by simp)]
 generalize learnP noM (.flow 1 ⟨1,2,0,0⟩)=M2 at *;generalize ([((1,0),⟨1,2,0,0⟩),((2,0),⟨1,2,0,0⟩)]:List Arv)=ar2 at *;generalize ([((1,0),⟨1,2,0,0⟩)]:List Arv)=ar1 at *;clear hQ DO hW D3 LO zB l1 l2 l3 l4 l5 CH NW HZ nilS;obtain⟨c0,c1,c2,c3⟩:=FS Q0;have Q0d:=KP Q0 ((Below.refl _ _).drew);go_wp2_with fail;go_region_held3 (λw'=>w'.cell? ⟨w3,0,none⟩=some (.int .i64 1) /\ w'.cell? ⟨w3,1,none⟩=some (.int .i64 2) /\ w'.cell? ⟨w3,2,none⟩=some (.int .i64 0) /\ w'.cell? ⟨w3,3,none⟩=some (.int .i64 0)) (exact FS (by first|exact Q4|exact Q3|exact Q2|exact Q1|exact Q0d)) (first|(go_at_call 12;(with_reducible refine(DO1.out _ Q0d).mono ?_);rintro e wa⟨rfl,Q1⟩)|(go_at_call 12;(with_reducible refine(DO2.out _ Q1).mono ?_);rintro e wb⟨rfl,Q2⟩)|(go_at_call 23;(with_reducible refine(PLC.out _ _ _).mono ?_);rintro e wd⟨rfl,hbd⟩;have Q3:=KP Q2 hbd)|(go_at_call 11;(with_reducible refine(HAS.out _ Q3).mono ?_);rintro e we⟨rfl,hbe⟩;have Q4:=KP Q3 hbe))
 all_goals
  go_wp2_with fail;go_ret;exact⟨rfl,BE Q4⟩
theorem hidOf{p:Prop}(h:p):Hid p:=h
abbrev evC(x:Ev):List Value:=[.int .i64 x.k,.int .i64 x.i,.int .i64 x.q,.int .i64 x.p.s,.int .i64 x.p.d,.int .i64 x.p.sp,.int .i64 x.p.dp,.int .i64 x.c]
abbrev evV(x:Ev):Value:=.agg #[x.k,x.i,x.q,x.p.s,x.p.d,x.p.sp,x.p.dp,x.c]
def eY(cs:List Value)(x:Ev):Prop:=cs=evC x
def kj(cs:List Value)(x:Arv):Prop:=cs=arC x
section
variable {α:Type}{f:α->List Value}{n:Nat}
theorem mI(hl:∀x,(f x).length=n):∀(xs:List α) (k:Nat) (x:α),xs[k]?=some x->((xs.flatMap f).drop (k*n)).take n=f x
 | [],k,x,h=>by cases h
 | y::xs,0,x,h=>by
   obtain rfl:y=x:=by simpa using h
   simp[hl]
 | y::xs,k+1,x,h=>by
   have ih:=mI hl xs k x (by simpa using h);rw[List.flatMap_cons,List.drop_append,List.drop_eq_nil_of_le (by rw[hl,Nat.add_mul];omega),List.nil_append,hl,show(k+1)*n-n=k*n by rw[Nat.add_mul];omega];exact ih
theorem kl{R:List Value->α->Prop}{B:Nat}{t:TypeId}{v:Value}{xs:List α}{W:World}(hl:∀x,(f x).length=n)(hR:∀x,R (f x) x)(h:W.ownsRow B t n v xs.length (xs.flatMap f)):SlAt W W n R v xs :=
 SlAt.own h λk x hk=>by
  rw[mI hl xs k x hk];exact hR x
end
theorem SlAt.ev{a9:Nat}{w:World}{A:Option Addr}{c:Nat}{l:List Ev}(h:SlAt a9 w 8 eY (.slice A l.length c) l){k:Nat}{x:Ev}(hx:l[k]?=some x):∃b o,A=some ⟨b,o,none⟩ /\ b<a9 /\ w.cell? ⟨b,o+k*8,none⟩=some (.int .i64 x.k) /\ w.cell? ⟨b,o+k*8+1,none⟩=some (.int .i64 x.i) /\ w.cell? ⟨b,o+k*8+2,none⟩=some (.int .i64 x.q) /\ w.cell? ⟨b,o+k*8+3,none⟩=some (.int .i64 x.p.s) /\ w.cell? ⟨b,o+k*8+4,none⟩=some (.int .i64 x.p.d) /\ w.cell? ⟨b,o+k*8+5,none⟩=some (.int .i64 x.p.sp) /\ w.cell? ⟨b,o+k*8+6,none⟩=some (.int .i64 x.p.dp) /\ w.cell? ⟨b,o+k*8+7,none⟩=some (.int .i64 x.c):=by
 obtain⟨A',c',e,h0,h1,h2,h3⟩:=h;cases e;obtain⟨b,o,ea,hl,hr⟩:=h3 (λe=>by rw[e]at hx;cases hx);obtain⟨cs,_,rfl,hc⟩:=hr k x hx;exact⟨b,o,ea,hl,hc 0 _ rfl,hc 1 _ rfl,hc 2 _ rfl,hc 3 _ rfl,hc 4 _ rfl,hc 5 _ rfl,hc 6 _ rfl,hc 7 _ rfl⟩
theorem SlAt.arvC{a9:Nat}{w:World}{A:Option Addr}{c:Nat}{l:List Arv}(h:SlAt a9 w 6 kj (.slice A l.length c) l){k:Nat}{x:Arv}(hx:l[k]?=some x):∃b o,A=some ⟨b,o,none⟩ /\ b<a9 /\ w.cell? ⟨b,o+k*6,none⟩=some (.int .i64 x.1.1) /\ w.cell? ⟨b,o+k*6+1,none⟩=some (.int .i64 x.1.2) /\ w.cell? ⟨b,o+k*6+2,none⟩=some (.int .i64 x.2.s) /\ w.cell? ⟨b,o+k*6+3,none⟩=some (.int .i64 x.2.d) /\ w.cell? ⟨b,o+k*6+4,none⟩=some (.int .i64 x.2.sp) /\ w.cell? ⟨b,o+k*6+5,none⟩=some (.int .i64 x.2.dp):=by
 obtain⟨A',c',e,h0,h1,h2,h3⟩:=h;cases e;obtain⟨b,o,ea,hl,hr⟩:=h3 (λe=>by rw[e]at hx;cases hx);obtain⟨cs,_,rfl,hc⟩:=hr k x hx;exact⟨b,o,ea,hl,hc 0 _ rfl,hc 1 _ rfl,hc 2 _ rfl,hc 3 _ rfl,hc 4 _ rfl,hc 5 _ rfl⟩
theorem SlAt.cap{α:Type}{a9 n:Nat}{w:World}{R:List Value->α->Prop}{A:Option Addr}{c:Nat}{l:List α}(h:SlAt a9 w n R (.slice A l.length c) l):l.length<=c /\ c<=2 ^ 63-1:=by
 obtain⟨A',c',e,h0,h1,h2,h3⟩:=h;cases e;unfold maxLen at h2;exact⟨h1,h2⟩
theorem uArS:prog.underlying 56=some (.slice 59):=by kernel_rfl
theorem mJ:(prog.info? 59).map (λi=>(i.zero,i.size,i.bytes))=some (some (.agg #[.int .i64 0,.int .i64 0,.int .i64 0,.int .i64 0,.int .i64 0,.int .i64 0]),6,48):=by kernel_rfl
theorem tZ(A:Option Addr)(cap:Nat)(c:List Ev)(w:World)(hX:Hid (SlAt w w 8 eY (.slice A c.length cap) c))(hn:c.length<=100) :
  Cl 112 #[.slice A c.length cap] w λe w'=>∃A' c',e=.returned (.slice A' (ai c).length c') /\ Hid (SlAt w' w' 6 kj (.slice A' (ai c).length c') (ai c)) /\ Below w w w':=by
 obtain⟨hcap1,hcap2⟩:=hX.out.cap;obtain⟨V,hV⟩:∃V:Value->List Arv->World->Prop,V=λv l W=>Below w w W /\ W.ownsRow w 59 6 v l.length (l.flatMap arC):=⟨_,rfl⟩;have V0:V (.slice none 0 0) [] w:=by
  rw[hV];exact⟨Below.refl _ _,jB _ _ _⟩
 have VE:Hid (∀{v:Value} {l:List Arv} {W:World},V v l W->∀{k:Nat} {x:Ev},c[k]?=some x->∃b o,A=some ⟨b,o,none⟩ /\ W.cell? ⟨b,o+k*8,none⟩=some (.int .i64 x.k) /\ W.cell? ⟨b,o+k*8+1,none⟩=some (.int .i64 x.i) /\ W.cell? ⟨b,o+k*8+2,none⟩=some (.int .i64 x.q) /\ W.cell? ⟨b,o+k*8+3,none⟩=some (.int .i64 x.p.s) /\ W.cell? ⟨b,o+k*8+4,none⟩=some (.int .i64 x.p.d) /\ W.cell? ⟨b,o+k*8+5,none⟩=some (.int .i64 x.p.sp) /\ W.cell? ⟨b,o+k*8+6,none⟩=some (.int .i64 x.p.dp) /\ W.cell? ⟨b,o+k*8+7,none⟩=some (.int .i64 x.c)):=λ{v l W} h {k x} hx=>by
  rw[hV]at h;obtain⟨b,o,e,_,hc⟩:=(SlAt.below hX.out h.1 (λ_ _ _ h=>h)).ev hx;exact⟨b,o,e,hc⟩
 have VL:Hid (∀{v:Value} {l:List Arv} {W:World} (o:Obj),V v l W->V v l (W.alloc o)):=λ{v l W} o h=>by
  rw[hV]at h ⊢;exact⟨Below.alN h.1 _,jz h.2 (Below.alN (Below.refl _ _) _)⟩
 have VA:Hid (∀{v:Value} {l:List Arv} {W:World} (x:Arv),V v l W->l.length<=100->∃g cq W1,(Builtin.append_ #[56,56] 56 #[v,.slice (some ⟨W,0,none⟩) 1 1]).run prog (W.alloc (.cells (arC x).toArray 59))=.ok (.slice (some ⟨g,0,none⟩) (l.length+1) cq) W1 /\ V (.slice (some ⟨g,0,none⟩) (l.length+1) cq) (l++[x]) W1):=λ{v l W} x h hl=>by
  rw[hV]at h ⊢;obtain⟨v',W1,hr,q1,q2,q3,_⟩:=lh uArS mJ rfl (by omega) (by omega) 56 h.2 (us:=arC x) rfl (by simp[Value.oneCell']) (by omega) h.1.size;obtain⟨g,cq,rfl,_⟩:=jA q1 (by omega);refine⟨g,cq,W1,hr,h.1.trans q2,?_⟩;rw[List.length_append,List.flatMap_append];simpa using q1
 have VZ:Hid (∀{v:Value} {l:List Arv} {W:World},V v l W->∃A' c',v=.slice A' l.length c' /\ Hid (SlAt W W 6 kj (.slice A' l.length c') l) /\ Below w w W):=λ{v l W} h=>by
  rw[hV]at h;obtain⟨A',c',rfl⟩:=dh h.2;exact⟨A',c',rfl,kl (λ_=>rfl) (λ_=>rfl) h.2,h.1⟩
 clear hV hX;go_enter func112,ntmps112;go_wp2_with fail;go_loopw[3,8] (λs3 s8 wr=>∃k:Nat,s8=.int .i64 (k:Int) /\ k<=c.length /\ V s3 (ai (c.take k)) wr) (λ_ s8 _=>c.length-(intOf s8).toNat)
 case atStart=>exact⟨0,rfl,by omega,V0⟩
 case round =>
  clear V0;obtain⟨k,rfl,hk,V1⟩:=hrel;by_cases hkl:k<c.length
  ·obtain⟨x,hx⟩:∃x,c[k]?=some x:=⟨_,List.getElem?_eq_getElem hkl⟩;obtain⟨b,o,rfl,e0,e1,e2,e3,e4,e5,e6,e7⟩:=VE.out V1 hx;have hN:Hid (ai (c.take (k+1))=ai (c.take k)++if x.k=2 then [((x.i,x.q),x.p)]else []):=by
    show _=_;rw[List.take_add_one,hx,eJ]
    congr 1
    unfold ai;by_cases h:x.k=2
    ·rw[if_pos h];simp[h]
    ·rw[if_neg h];simp[h]
   have hl:(ai (c.take k)).length<=100:=by
    unfold ai;rw[List.length_map];have:=List.length_filter_le (λx:Ev=>x.k == 2) (c.take k);rw[List.length_take]at this;omega
   have k1:(0:Int)<=(k:Int):=by omega
   have k2:(k:Int)<(c.length:Int):=by omega
   obtain⟨xk,xi,xq,⟨xs,xd,xsp,xdp⟩,xc⟩:=x;dsimp only at e0 e1 e2 e3 e4 e5 e6 e7 hN;have V2:=VL.out (.cells #[xk,xi,xq,xs,xd,xsp,xdp,xc] 47) V1;by_cases h2:xk=2
   ·obtain⟨g,cq,W1,hr,V3⟩:=VA.out ((xi,xq),⟨xs,xd,xsp,xdp⟩) V2 hl;have t2:(xk == 2)=true:=by simpa using h2
    rw[if_pos h2]at hN;clear VE VL VA VZ V1 V2 hx h2;dsimp only[arC]at hr;simp only[World.size_alloc]at hr;go_wp2_with (at_builtin;refine eu rfl _ _ 56 rfl rfl rfl hr ?_);clear hr;go_roundw
    case rel=>exact⟨k+1,by go_num,by omega,by rw[hN.out];exact V3⟩
    case measure=>simp[intOf];omega
   ·have t2:(xk == 2)=false:=by simpa using h2
    rw[if_neg h2,List.append_nil]at hN;clear VE VL VA VZ V1 hx h2;go_wp2_with fail;go_roundw
    case rel=>exact⟨k+1,by go_num,by omega,by rw[hN.out];exact V2⟩
    case measure=>simp[intOf];omega
  ·obtain rfl:k=c.length:=by omega
   rw[List.take_length]at V1;obtain⟨A',c',rfl,hS,hB⟩:=VZ.out V1;clear VE VL VA VZ V1;go_wp2_with fail;go_ret;exact⟨A',c',rfl,hS,hB⟩
theorem mK{P:Nat->Prop}:∀(n k:Nat),k<=n->P k->∃j,P j /\ ∀i,i<j->¬P i
 | 0,k,hk,h=>⟨k,h,λi hi=>by omega⟩
 | n+1,k,hk,h=>by
   by_cases e:∃i,i<k /\ P i
   ·obtain⟨i,hi,hp⟩:=e;exact mK n i (by omega) hp
   ·exact⟨k,h,λi hi hp=>e ⟨i,hi,hp⟩⟩
theorem mL{P:Nat->Prop}(h:∃k,P k):∃j,P j /\ ∀i,i<j->¬P i:=by
 obtain⟨k,hk⟩:=h;exact mK k k (Nat.le_refl _) hk
open Classical in
noncomputable def rdF (ds:List Dv)(ls:List Lk)(K:Nat)(x:Arv):Int:=if h:∃k:Nat,k<=K /\ ae x.2=true /\ ay ds ls k x.1 x.2 then((Classical.choose (mL h):Nat):Int)else -1
section
variable {ds:List Dv}{ls:List Lk}{K:Nat}{x:Arv}
theorem gP(ds:List Dv)(ls:List Lk)(K:Nat)(x:Arv):(rdF ds ls K x=-1 /\ ∀k,k<=K->ae x.2=true->¬ay ds ls k x.1 x.2)\/∃j:Nat,rdF ds ls K x=(j:Int) /\ j<=K /\ ae x.2=true /\ ay ds ls j x.1 x.2 /\ ∀i,i<j->¬ay ds ls i x.1 x.2:=by
 unfold rdF
 split
 ·rename_i h
  obtain⟨hs,hm⟩:=Classical.choose_spec (mL h);exact Or.inr ⟨_,rfl,hs.1,hs.2.1,hs.2.2,λi hi hp=>hm i hi ⟨by omega,hs.2.1,hp⟩⟩
 ·rename_i h
  exact Or.inl ⟨rfl,λk hk hp hs=>h ⟨k,hk,hp,hs⟩⟩
theorem km{j:Nat}(hj:j<=K)(hp:ae x.2=true)(h:ay ds ls j x.1 x.2):0<=rdF ds ls K x /\ rdF ds ls K x<=(j:Int):=by
 rcases gP ds ls K x with⟨_,hn⟩|⟨i,e,_,_,_,h3⟩
 ·exact absurd h (hn j hj hp)
 ·rw[e];refine⟨by omega,?_⟩;by_cases hij:i<=j
  ·omega
  ·exact absurd h (h3 j (by omega))
theorem fS(h:0<=rdF ds ls K x):∃j:Nat,rdF ds ls K x=(j:Int) /\ j<=K /\ ae x.2=true /\ ay ds ls j x.1 x.2 /\ ∀i,i<j->¬ay ds ls i x.1 x.2:=by
 rcases gP ds ls K x with⟨e,_⟩|h'
 ·omega
 ·exact h'
theorem mM(p:Pk):pkR p.s p.d p.sp p.dp=ae p:=rfl
theorem ua{bR R MR a7:Nat}{sl:Value}{xs:List Value}{ns:List Nd}{s:Nat->Nat->Nat->Nat}{W:World}(h:RcF ds ls bR R MR a7 K sl xs ns s W)(x:Arv):CB 24 #[.pointer R,plA x.1.1 x.1.2,pkV x.2] W (.int .i64 (rdF ds ls K x)):=by
 cases hp:ae x.2
 ·refine(Bt R x.1.1 x.1.2 _ _ _ _ W (by rw[mM];exact hp)).mono λe w' ⟨h1,h2⟩=>⟨?_,h2⟩;rw[h1];rcases gP ds ls K x with⟨e,_⟩|⟨_,_,_,hp',_⟩
  ·rw[e]
  ·rw[hp]at hp';cases hp'
 ·refine(lV h x.1.1 x.1.2 _ _ _ _ (by rw[mM];exact hp)).mono λe w' ⟨v,h1,h2,h3⟩=>⟨?_,h3⟩;rw[h1];obtain⟨k,⟨f1,f2,f3⟩,rfl⟩:=h2.out;have at_:∀i,atF ds ls i x.1.1 x.1.2 (envOf 14 (codeR x.2.s x.2.d x.2.sp x.2.dp))=true ↔ ay ds ls i x.1 x.2:=λi=>by
   unfold ay;rw[L14.at x.1.1 x.1.2 _ _ (oX hp)]
  rcases gP ds ls K x with⟨e,hn⟩|⟨j,e,h4,_,h5,h6⟩
  ·rw[e];by_cases hk:k<K+1
   ·exact absurd ((at_ k).1 (f3 k (Nat.le_refl _) hk)) (hn k (by omega) hp)
   ·rw[if_neg hk]
  ·rw[e];have hkj:k=j:=by
    rcases Nat.lt_trichotomy k j with l|l|l
    ·exact absurd ((at_ k).1 (f3 k (Nat.le_refl _) (by omega))) (h6 k l)
    ·exact l
    ·have:=f2 j l;dsimp only at this;rw[(at_ j).2 h5]at this;cases this
   subst hkj;rw[if_pos (by omega)]
end
def bO(rd:Arv->Int):List Arv->Int->Int × Bool
 | [],m=>(m,true)
 | x::l,m=>if rd x<0 then(0,false)else bO rd l (max m (rd x))
theorem mN{rd:Arv->Int}:∀{l:List Arv} {m v:Int},bO rd l m=(v,true)->m<=v /\ ∀x∈l,0<=rd x /\ rd x<=v
 | [],m,v,h=>by
   cases h;exact⟨by omega,λx hx=>by cases hx⟩
 | x::l,m,v,h=>by
   unfold bO at h
   split at h
   ·cases h
   ·rename_i h0
    obtain⟨h1,h2⟩:=mN h;refine⟨by omega,λy hy=>?_⟩;rcases List.mem_cons.1 hy with rfl|hy
    ·omega
    ·exact h2 y hy
theorem mO{rd:Arv->Int}{j:Int}:∀{l:List Arv} {m:Int},m<=j->(∀x∈l,0<=rd x /\ rd x<=j)->∃v,bO rd l m=(v,true) /\ v<=j
 | [],m,hm,_=>⟨m,rfl,hm⟩
 | x::l,m,hm,h=>by
   obtain⟨h1,h2⟩:=h x (by simp);unfold bO;rw[if_neg (by omega)];exact mO (by omega) λy hy=>h y (by simp[hy])
abbrev fdV(A:Option Addr)(n cap:Nat)(L:Option Addr)(m e9 R:Nat):Value:=.agg #[.slice A n cap,.slice L m e9,.pointer R]
def RdC(R:Nat)(rd:Arv->Int)(w:World):Prop:=∀(x:Arv) (W:World),Below w w W->CB 24 #[.pointer R,plA x.1.1 x.1.2,pkV x.2] W (.int .i64 (rd x))
theorem RdC.below{R:Nat}{rd:Arv->Int}{w W:World}(h:RdC R rd w)(hb:Below w w W):RdC R rd W:=λx W' h'=>h x W' (ag h' hb)
theorem ub(A L C:Option Addr)(nd cap nl e9 R cc:Nat)(rd:Arv->Int)(c:List Ev)(w:World)(hX:Hid (SlAt w w 8 eY (.slice C c.length cc) c))(hn:c.length<=100)(hR:Hid (RdC R rd w)) :
  CB 143 #[fdV A nd cap L nl e9 R,.slice C c.length cc] w (.tuple #[.int .i64 (bO rd (ai c) (-1)).1,.bool (bO rd (ai c) (-1)).2]):=by
 have D1:Below w w (w.alloc (.cells #[.slice A nd cap,.slice L nl e9,.pointer R] 164)):=Below.alN (Below.refl _ _) _;have B1:=ah w #[.slice A nd cap,.slice L nl e9,.pointer R] 164;have ND:Hid (Cl 112 #[.slice C c.length cc] (w.alloc (.cells #[.slice A nd cap,.slice L nl e9,.pointer R] 164)) _):=tZ C cc c _ (SlAt.mono (SlAt.below hX.out D1 (λ_ _ _ h=>h)) D1.size (λ_ _ _ h=>h)) hn;go_enter func143,ntmps143;go_wp2_with fail;refine ND.out.mono ?_;rintro e w1⟨A',c',rfl,hS,hb1⟩;have D2:=ag hb1 D1;have B2:=Bk.keep hb1 B1;obtain⟨hc1,hc2⟩:=hS.out.cap;have HR:Hid (∀(x:Arv) (W:World),Below w1 w1 W->CB 24 #[.pointer R,plA x.1.1 x.1.2,pkV x.2] W (.int .i64 (rd x))):=λx W h=>hR.out x W (ag h D2);have HF:Hid (∀{W:World},Below w1 w1 W->Below w w W /\ Bk W w.heap.size #[.slice A nd cap,.slice L nl e9,.pointer R] 164):=λ{W} h=>⟨ag h D2,Bk.keep h B2⟩;have HA:Hid (∀{W:World},Below w1 w1 W->∀{k:Nat} {x:Arv},(ai c)[k]?=some x->∃b o,A'=some ⟨b,o,none⟩ /\ W.cell? ⟨b,o+k*6,none⟩=some (.int .i64 x.1.1) /\ W.cell? ⟨b,o+k*6+1,none⟩=some (.int .i64 x.1.2) /\ W.cell? ⟨b,o+k*6+2,none⟩=some (.int .i64 x.2.s) /\ W.cell? ⟨b,o+k*6+3,none⟩=some (.int .i64 x.2.d) /\ W.cell? ⟨b,o+k*6+4,none⟩=some (.int .i64 x.2.sp) /\ W.cell? ⟨b,o+k*6+5,none⟩=some (.int .i64 x.2.dp)):=λ{W} h {k x} hx=>by
  obtain⟨b,o,e,_,hc⟩:=(SlAt.below hS.out h (λ_ _ _ h=>h)).arvC hx;exact⟨b,o,e,hc⟩
 have R0:=Below.refl w1 w1;clear hX hR ND D1 D2 B1 B2 hb1 hS;obtain⟨l,hlc⟩:∃l,l=ai c:=⟨_,rfl⟩;rw[<- hlc]at HA hc1;rw[<- hlc]
 replace hlc:=hidOf hlc
 go_wp2_with fail;go_loopw[6,13] (λs6 s13 wr=>∃(k:Nat) (m:Int),s6=.int .i64 m /\ s13=.int .i64 (k:Int) /\ k<=l.length /\ Below w1 w1 wr /\ Hid (bO rd (l.drop k) m=bO rd l (-1))) (λ_ s13 _=>l.length-(intOf s13).toNat)
 case atStart=>exact⟨0,-1,rfl,rfl,by omega,R0,rfl⟩
 case round =>
  clear R0;obtain⟨k,m,rfl,rfl,hk,R1,hL⟩:=hrel;by_cases hkl:k<l.length
  ·obtain⟨x,hx⟩:∃x,l[k]?=some x:=⟨_,List.getElem?_eq_getElem hkl⟩;obtain⟨b,o,rfl,e0,e1,e2,e3,e4,e5⟩:=HA.out R1 hx;have hdr:l.drop k=x::l.drop (k+1):=by
    rw[List.drop_eq_getElem_cons hkl]
    congr 1
    rw[List.getElem?_eq_getElem hkl]at hx;exact Option.some.inj hx
   rw[hdr]at hL;have hL:Hid ((if rd x<0 then(0,false)else bO rd (l.drop (k+1)) (max m (rd x)))=bO rd l (-1)):=hL;have k1:(0:Int)<=(k:Int):=by omega
   have k2:(k:Int)<(l.length:Int):=by omega
   have R2:Below w1 w1 (wr.alloc (.cells #[.int .i64 x.1.1,.int .i64 x.1.2,.int .i64 x.2.s,.int .i64 x.2.d,.int .i64 x.2.sp,.int .i64 x.2.dp] 59)):=Below.alN R1 _;have RX:=HR.out x _ R2;obtain⟨D2,F2⟩:=HF.out R2;obtain⟨y0,y1,y2⟩:=And.intro (F2.at 0) (And.intro (F2.at 1) (F2.at 2));have lf:=F2.lt;obtain⟨⟨xi,xq⟩,⟨xs,xd,xsp,xdp⟩⟩:=x;dsimp only at e0 e1 e2 e3 e4 e5 R2 RX lf y0 y1 y2;have RX:=hidOf RX;clear HA HR D2 F2 hx hdr R1;go_wp2_with fail;refine RX.out.mono ?_;rintro e w3⟨rfl,hb3⟩;have R3:=ag hb3 R2;have D3:=(HF.out R3).1;clear RX hb3 R2 y0 y1 y2 lf e0 e1 e2 e3 e4 e5;generalize rd ((xi,xq),⟨xs,xd,xsp,xdp⟩)=r at *;by_cases hr:r<0
   ·have tr:decide (r<0)=true:=by simpa using hr
    rw[if_pos hr]at hL;clear HF R3;go_wp2_with fail;go_ret2;exact⟨by rw[<- hlc.out,<- hL.out];rfl,D3⟩
   ·have tr:decide (r<0)=false:=by simpa using hr
    rw[if_neg hr]at hL;go_wp2_with fail;go_roundw
    case rel=>exact⟨k+1,max m r,by first|rfl|(congr 1;omega)|(simp;omega),by go_num,by omega,R3,hL⟩
    case measure=>simp[intOf];omega
  ·obtain rfl:k=l.length:=by omega
   rw[List.drop_length]at hL;have hL:Hid ((m,true)=bO rd l (-1)):=hL;have D3:=(HF.out R1).1;clear HA HR HF;go_wp2_with fail;go_ret2;exact⟨by rw[<- hlc.out,<- hL.out];rfl,D3⟩
theorem da(i q:Int)(p:Pk)(c:Int)(w:World):CB 172 #[i,q,pkV p,c] w (evV (ac i q p c)):=by
 have D:=Below.alN (Below.alN (Below.refl w w) (.cells #[p.s,p.d,p.sp,p.dp] 37)) (.cells #[.int .i64 2,i,q,p.s,p.d,p.sp,p.dp,c] 47);go_enter func172,ntmps172;go_wp2_with fail;refine bodyPost_ret (v:=evV (ac i q p c)) (by simp[results,results172,go_sem]) rfl ⟨rfl,D⟩
theorem mP(i:Int)(p:Pk)(w:World):CB 205 #[i,pkV p] w (evV (aA i p 0)):=by
 have D:=Below.alN (Below.alN (Below.refl w w) (.cells #[p.s,p.d,p.sp,p.dp] 37)) (.cells #[.int .i64 3,i,.int .i64 0,p.s,p.d,p.sp,p.dp,.int .i64 0] 47);go_enter func205,ntmps205;go_wp2_with fail;refine bodyPost_ret (v:=evV (aA i p 0)) (by simp[results,results205,go_sem]) rfl ⟨rfl,D⟩
theorem mQ{t e:TypeId}{z:Value}{size bytes:Nat}(hu:prog.underlying t=some (.slice e))(hinfo:(prog.info? e).map (λi=>(i.zero,i.size,i.bytes))=some (some z,size,bytes))(hz1:z.cells.size=size)(hs0:0<size)(hby:bytes<=320)
  {a9 n m:Nat} {w:World} {v:Value} {xs us:List Value} (ty:TypeId) (h:w.ownsRow a9 e size v n xs) (hus:us.length=m*size) (h1:∀u∈us,u.oneCell'=true) (hn:n<=700000) (hm:m<=1000) (hb:a9<=w.heap.size) :
  ∃v' w',(Builtin.append_ #[t,t] ty #[v,.slice (some ⟨w,0,none⟩) m m]).run prog (w.alloc (.cells us.toArray e))=.ok v' w' /\ w'.ownsRow a9 e size v' (n+m) (xs++us) /\ Below a9 w w' /\ KeptBS w w' v.ownBlock /\ (v'.ownBlock=v.ownBlock\/∃g,v'.ownBlock=some g /\ w.heap.size<=g):=by
 obtain⟨i0,hi,hz0,hz1',hz2⟩:=info_parts hinfo;have hA:Below w w (w.alloc (.cells us.toArray e)):=(Below.refl _ _).alloc (Nat.le_refl _) _;have ho:(w.alloc (.cells us.toArray e)).ownsRow a9 e size v n xs:=jy h (KeptBS.of_below hA) (λg _=>by simp);obtain⟨v',w',hr,h4,h5,_,h7⟩:=run_append_own_at (P:=prog) (w.alloc (.cells us.toArray e)) a9 t ty e i0 z size bytes hu hi hz0 hz1' hz2 hz1 hs0 v n xs ho ⟨w,0,none⟩ m m us hus (λj x hj=>by
  have hg:(w.alloc (.cells us.toArray e)).heap[w.heap.size]?=some (.cells us.toArray e):=Go.Deep.blk_alloc_new w _;rw[Addr.add_lit,Nat.zero_add];simp only[World.cell?,hg];simp[hj]) h1 (by unfold maxLen;omega) (by
   have:(n+m)*bytes<=701001*320:=Nat.mul_le_mul (by omega) hby;omega) (by simp;omega)
 have hsz:(w.alloc (.cells us.toArray e)).heap.size=w.heap.size+1:=Go.Deep.nblk_alloc w _;refine⟨v',w',hr,h4,?_,⟨by have:=h5.size;omega,λk hk hne=>?_⟩,?_⟩
 ·exact((Below.refl a9 w).alloc hb (.cells us.toArray e)).grown h5 (by simp;omega) (λk e=>(ho.lt k e).1)
 ·rw[h5.block k (by omega) hne,Go.Deep.blk_alloc_lt w _ k hk]
 ·rcases h7 with h7|h7
  ·exact Or.inl h7
  ·exact Or.inr ⟨_,h7,by omega⟩
theorem uCaS:prog.underlying 209=some (.slice 47):=by kernel_rfl
theorem mR:(prog.info? 47).map (λi=>(i.zero,i.size,i.bytes))=some (some (.agg #[.int .i64 0,.int .i64 0,.int .i64 0,.int .i64 0,.int .i64 0,.int .i64 0,.int .i64 0,.int .i64 0]),8,64):=by kernel_rfl
theorem uCsS:prog.underlying 232=some (.slice 209):=by kernel_rfl
theorem uc:(prog.info? 209).map (λi=>(i.zero,i.size,i.bytes))=some (some (.slice none 0 0),1,24):=by kernel_rfl
theorem ud(x:Ev):(evC x).length=8:=rfl
theorem mS(l:List Ev):∀u∈l.flatMap evC,u.oneCell'=true:=λu hu=>by
 obtain⟨x,_,hx⟩:=List.mem_flatMap.1 hu;simp only[List.mem_cons,List.not_mem_nil,or_false]at hx;rcases hx with rfl|rfl|rfl|rfl|rfl|rfl|rfl|rfl <;> rfl
theorem iN(l:List Ev):(l.flatMap evC).length=l.length*8:=by
 induction l with
 | nil=>rfl
 | cons x l ih=>rw[List.flatMap_cons,List.length_append,ih,ud,List.length_cons];omega
def EvRow(B:Nat)(W:World)(v:Value)(l:List Ev):Prop:=W.ownsRow B 47 8 v l.length (l.flatMap evC)
section
variable {B:Nat}{W W':World}{v:Value}{l m:List Ev}
theorem EvRow.below(h:EvRow B W v l)(hb:Below W W W'):EvRow B W' v l:=jz h hb
theorem EvRow.app(h:EvRow B W v l)(m:List Ev)(hl:l.length<=5000)(hm:m.length<=100)(hB:B<=W.heap.size):∃A c W1,(Builtin.append_ #[209,209] 209 #[v,.slice (some ⟨W,0,none⟩) m.length m.length]).run prog (W.alloc (.cells (m.flatMap evC).toArray 47))=.ok (.slice A (l.length+m.length) c) W1 /\ EvRow B W1 (.slice A (l.length+m.length) c) (l++m) /\ Below B W W1 /\ KeptBS W W1 v.ownBlock:=by
 obtain⟨v',W1,hr,q1,q2,q3,_⟩:=mQ uCaS mR rfl (by omega) (by omega) 209 h (iN m) (mS m) (by omega) (by omega) hB;obtain⟨A,c,rfl⟩:=dh q1;refine⟨A,c,W1,hr,?_,q2,q3⟩;unfold EvRow;rw[List.length_append,List.flatMap_append];exact q1
theorem EvRow.sl(h:EvRow B W v l):SlAt W W 8 eY v l:=kl (λ_=>rfl) (λ_=>rfl) h
end
theorem mT(B:Nat)(W:World):EvRow B W (.slice none 0 0) []:=jB _ _ _
theorem mU(A L:Option Addr)(cap nl e9 R i:Nat)(ds:List Dv)(d:Dv)(w:World)(hd:ds[i]?=some d)(hp:d.pool<256)(hD:Hid (Devs w w (.slice A ds.length cap) ds)) :
  Cl 204 #[fdV A ds.length cap L nl e9 R,(i:Int)] w λe w'=>∃A' c',e=.returned (.slice A' (aJ d i).length c') /\ EvRow w w' (.slice A' (aJ d i).length c') (aJ d i) /\ Below w w w':=by
 have hil:=(List.getElem?_eq_some_iff.1 hd).1;obtain⟨b,o,_,_,_,rfl,hbl,_,_,_,_,_,_,c3,_⟩:=hD.out.at hd;have hcap:=hD.out.len.2;unfold maxLen at hcap;have D1:Below w w (w.alloc (.cells #[.slice (some ⟨b,o,none⟩) ds.length cap,.slice L nl e9,.pointer R] 164)):=Below.alN (Below.refl _ _) _;obtain⟨V,hV⟩:∃V:Value->List Ev->World->Prop,V=λv l W=>Below w w W /\ EvRow w W v l /\ Bk W w.heap.size #[.slice (some ⟨b,o,none⟩) ds.length cap,.slice L nl e9,.pointer R] 164:=⟨_,rfl⟩;have V0:V (.slice none 0 0) [] (w.alloc (.cells #[.slice (some ⟨b,o,none⟩) ds.length cap,.slice L nl e9,.pointer R] 164)):=by
  rw[hV];exact⟨D1,mT _ _,ah _ _ _⟩
 have VN:Hid (∀{v:Value} {l:List Ev} {W:World},V v l W->W.cell? ⟨w,0,none⟩=some (.slice (some ⟨b,o,none⟩) ds.length cap) /\ W.cell? ⟨b,o+i*7+3,none⟩=some (.int .u8 (d.pool:Int))):=λ{v l W} h=>by
  rw[hV]at h;exact⟨h.2.2.at 0,(h.1.cell (p:=⟨b,_,none⟩) hbl).trans c3⟩
 have VA:Hid (∀{v:Value} {l:List Ev} {W:World} (x:Ev),V v l W->l.length<=100->∃A cq W1,(Builtin.append_ #[209,209] 209 #[v,.slice (some ⟨W,0,none⟩) 1 1]).run prog (W.alloc (.cells #[x.k,x.i,x.q,x.p.s,x.p.d,x.p.sp,x.p.dp,x.c] 47))=.ok (.slice A (l.length+1) cq) W1 /\ V (.slice A (l.length+1) cq) (l++[x]) W1):=λ{v l W} x h hl=>by
  rw[hV]at h ⊢;obtain⟨A',c',W1,h1,h2,h3,h4⟩:=h.2.1.app [x] (by omega) (by simp) h.1.size;refine⟨A',c',W1,h1,h.1.trans h3,h2,?_⟩;have hne:some w.heap.size≠v.ownBlock:=λe=>by
   obtain⟨_,_,cur,hc⟩:=cg h.2.1 e.symm;have hb:W.heap[w.heap.size]?=_:=h.2.2;rw[hb]at hc;cases hc
  exact(h4.block _ h.2.2.lt hne).trans h.2.2
 have VZ:Hid (∀{v:Value} {l:List Ev} {W:World},V v l W->∃A' c',v=.slice A' l.length c' /\ EvRow w W (.slice A' l.length c') l /\ Below w w W):=λ{v l W} h=>by
  rw[hV]at h;obtain⟨A',c',e⟩:=dh h.2.1;exact⟨A',c',e,by rw[<- e];exact h.2.1,h.1⟩
 have OW:Hid (aJ d i=((List.range 8).filter λk=>d.pool.testBit k).map λ(k:Nat)=>aA i zeroP (k:Int)):=rfl;have i1:(0:Int)<=(i:Int):=by omega
 have i2:(i:Int)<(ds.length:Int):=by omega
 have hpool:=hidOf hp;clear hV hD hd hp c3 D1;go_enter func204,ntmps204;go_wp2_with fail;go_loopw[5,7] (λs5 s7 wr=>∃k:Nat,s7=.int .i64 (k:Int) /\ k<=8 /\ V s5 (((List.range k).filter λk=>d.pool.testBit k).map λ(k:Nat)=>aA i zeroP (k:Int)) wr) (λ_ s7 _=>8-(intOf s7).toNat)
 case atStart=>exact⟨0,rfl,by omega,V0⟩
 case round =>
  clear V0;obtain⟨k,rfl,hk,V1⟩:=hrel;by_cases hkl:k<8
  ·have hN:Hid ((((List.range (k+1)).filter λk=>d.pool.testBit k).map λ(k:Nat)=>aA i zeroP (k:Int))=(((List.range k).filter λk=>d.pool.testBit k).map λ(k:Nat)=>aA i zeroP (k:Int))++if d.pool.testBit k then [aA i zeroP (k:Int)]else []):=by
    show _=_;rw[List.range_succ,List.filter_append,List.map_append]
    congr 1
    by_cases h:d.pool.testBit k
    ·simp[h]
    ·simp[h]
   have hl:(((List.range k).filter λk=>d.pool.testBit k).map λ(k:Nat)=>aA i zeroP (k:Int)).length<=100:=by
    rw[List.length_map];have:=List.length_filter_le (λk=>d.pool.testBit k) (List.range k);rw[List.length_range]at this;omega
   obtain⟨n0,n1⟩:=VN.out V1;have pb:(Go.bits .and .u8 ((d.pool:Int) / 2 ^ k) 1 == 1)=d.pool.testBit k:=by
    rw[show(d.pool:Int) / 2 ^ k=((d.pool / 2 ^ k:Nat):Int) by norm_cast];exact dX d.pool hpool.out k
   have k1:(0:Int)<=(k:Int):=by omega
   have k2:(k:Int)<8:=by omega
   have k8:(k:Int)<=8:=by omega
   obtain⟨A',cq,W1,hr,V2⟩:=VA.out (aA i zeroP (k:Int)) V1 hl;clear VN VA VZ;cases hb:d.pool.testBit k
   ·rw[hb]at pb hN;have hN2:Hid ((((List.range (k+1)).filter λk=>d.pool.testBit k).map λ(k:Nat)=>aA i zeroP (k:Int))=(((List.range k).filter λk=>d.pool.testBit k).map λ(k:Nat)=>aA i zeroP (k:Int))):=by
     show _=_;rw[hN.out,if_neg (by simp),List.append_nil]
    clear V2 hr hN hb;go_wp2_with fail;go_roundw
    case rel=>exact⟨k+1,by go_num,by omega,by rw[hN2.out];exact V1⟩
    case measure=>simp[intOf];omega
   ·rw[hb]at pb hN;rw[if_pos rfl]at hN;rw[List.length_map]at hr V2;clear hb V1;go_wp2_with (at_builtin;refine eu rfl _ _ 209 rfl rfl rfl hr ?_);clear hr;go_roundw
    case rel=>exact⟨k+1,by go_num,by omega,by rw[hN.out];exact V2⟩
    case measure=>simp[intOf];omega
  ·obtain rfl:k=8:=by omega
   rw[<- OW.out]at V1;obtain⟨A',c',rfl,h1,h2⟩:=VZ.out V1;clear VN VA VZ V1;go_wp2_with fail;go_ret;exact⟨A',c',rfl,h1,h2⟩
theorem own_lo{B B' e size n:Nat}{v:Value}{xs:List Value}{W:World}(h:W.ownsRow B e size v n xs)(hB:B'<=B):W.ownsRow B' e size v n xs:=by
 refine⟨h.1,?_⟩;rcases h.2 with k|⟨g,cap,cur,h1,h2,h3⟩
 ·exact Or.inl k
 ·exact Or.inr ⟨g,cap,cur,h1,Nat.le_trans hB h2,h3⟩
theorem eC(W:World)(l:List Ev)(hn:l.length<=5000){B:Nat}(hB:B<=W.heap.size):EvRow B (W.alloc (.cells (l.flatMap evC).toArray 47)) (.slice (some ⟨W,0,none⟩) l.length l.length) l:=by
 refine⟨iN l,Or.inr ⟨W,l.length,(l.flatMap evC).toArray,rfl,hB,Go.Deep.blk_alloc_new W _,Nat.le_refl _,by unfold maxLen;omega,?_,?_⟩⟩
 ·rw[List.size_toArray];exact iN l
 ·rw[List.take_of_length_le (by rw[List.toList_toArray,iN];omega)]
def CsRow(B:Nat)(W:World)(v:Value)(cs:List (List Ev)):Prop:=∃vs:List Value,vs.length=cs.length /\ W.ownsRow B 209 1 v cs.length vs /\ ∀(k:Nat) (c:List Ev),cs[k]?=some c->∃u,vs[k]?=some u /\ EvRow B W u c
section
variable {B:Nat}{W W':World}{v u:Value}{cs:List (List Ev)}{c:List Ev}
theorem iO(B:Nat)(W:World):CsRow B W (.slice none 0 0) []:=⟨[],rfl,jB _ _ _,λk c h=>by cases h⟩
theorem CsRow.below(h:CsRow B W v cs)(hb:Below W W W'):CsRow B W' v cs:=by
 obtain⟨vs,h1,h2,h3⟩:=h;refine⟨vs,h1,jz h2 hb,λk c hk=>?_⟩;obtain⟨u,h4,h5⟩:=h3 k c hk;exact⟨u,h4,h5.below hb⟩
theorem CsRow.slice(h:CsRow B W v cs):∃A c,v=.slice A cs.length c:=by
 obtain⟨vs,_,h2,_⟩:=h;exact dh h2
theorem ue(h:EvRow B W u c):u.oneCell'=true:=by
 obtain⟨A,c,rfl⟩:=dh h;rfl
theorem CsRow.add(h:CsRow B W v cs)(hu:EvRow B W u c)(hn:cs.length<=5000)(hB:B<=W.heap.size):∃A q W1,(Builtin.append_ #[232,232] 232 #[v,.slice (some ⟨W,0,none⟩) 1 1]).run prog (W.alloc (.cells #[u] 209))=.ok (.slice A (cs.length+1) q) W1 /\ CsRow B W1 (.slice A (cs.length+1) q) (cs++[c]) /\ Below B W W1 /\ KeptBS W W1 v.ownBlock:=by
 obtain⟨vs,h1,h2,h3⟩:=h;obtain⟨v',W1,hr,q1,q2,q3,_⟩:=lh uCsS uc rfl (by omega) (by omega) 232 h2 (us:=[u]) rfl (by simp[ue hu]) (by omega) hB;obtain⟨A,q,rfl⟩:=dh q1;have kp:∀{u:Value} {c:List Ev},EvRow B W u c->EvRow B W1 u c:=λ{u c} hu=>jy hu q3 (λg hg e=>by
  obtain⟨_,_,_,hc⟩:=cg h2 e;obtain⟨_,_,_,hd⟩:=cg hu hg;rw[hc]at hd;cases hd)
 refine⟨A,q,W1,hr,⟨vs++[u],by simp[h1],by rw[List.length_append];exact q1,λk c' hk=>?_⟩,q2,q3⟩;by_cases e:k=cs.length
 ·subst e;rw[List.getElem?_append_right (Nat.le_refl _),Nat.sub_self]at hk;obtain rfl:c=c':=by simpa using hk
  exact⟨u,by rw[List.getElem?_append_right (by omega),h1,Nat.sub_self];rfl,kp hu⟩
 ·have hl:=(List.getElem?_eq_some_iff.1 hk).1;rw[List.length_append,List.length_singleton]at hl;rw[List.getElem?_append_left (by omega)]at hk;obtain⟨u',h4,h5⟩:=h3 k c' hk;exact⟨u',by rw[List.getElem?_append_left (by omega)];exact h4,kp h5⟩
theorem eZ(hu:EvRow B W u c)(hB:B<=W.heap.size):CsRow B (W.alloc (.cells #[u] 209)) (.slice (some ⟨W,0,none⟩) 1 1) [c] :=
 ⟨[u],rfl,yO W u _ hB,λk c' hk=>by
  match k,hk with
  | 0,hk =>
    obtain rfl:c=c':=by simpa using hk
    exact⟨u,rfl,hu.below (Below.alN (Below.refl _ _) _)⟩⟩
end
def CzOut(w:World)(P:List (List Ev)->Prop)(e:Ending)(w':World):Prop:=∃A q cs,e=.returned (.slice A cs.length q) /\ Hid (P cs /\ CsRow w w' (.slice A cs.length q) cs) /\ Below w w w'
theorem uf(i:Int)(p:Pk)(w:World):Cl 171 #[i,pkV p] w (CzOut w λcs=>cs=(List.range 4).map λ(q:Nat)=>[ac i (q:Int) p 0]):=by
 have D1:Below w w (w.alloc (.cells #[p.s,p.d,p.sp,p.dp] 37)):=Below.alN (Below.refl _ _) _;obtain⟨V,hV⟩:∃V:Value->List (List Ev)->World->Prop,V=λv cs W=>Below w w W /\ CsRow w W v cs /\ Bk W w.heap.size #[p.s,p.d,p.sp,p.dp] 37:=⟨_,rfl⟩;have V0:V (.slice none 0 0) [] (w.alloc (.cells #[p.s,p.d,p.sp,p.dp] 37)):=by
  rw[hV];exact⟨D1,iO _ _,ah _ _ _⟩
 have VN:Hid (∀{v:Value} {cs:List (List Ev)} {W:World},V v cs W->w.heap.size<W.heap.size /\ W.cell? ⟨w,0,none⟩=some (.int .i64 p.s) /\ W.cell? ⟨w,1,none⟩=some (.int .i64 p.d) /\ W.cell? ⟨w,2,none⟩=some (.int .i64 p.sp) /\ W.cell? ⟨w,3,none⟩=some (.int .i64 p.dp)):=λ{v cs W} h=>by
  rw[hV]at h;exact⟨h.2.2.lt,h.2.2.at 0,h.2.2.at 1,h.2.2.at 2,h.2.2.at 3⟩
 have VB:Hid (∀{v:Value} {cs:List (List Ev)} {W W':World},V v cs W->Below W W W'->V v cs W'):=λ{v cs W W'} h hb=>by
  rw[hV]at h ⊢;exact⟨ag hb h.1,h.2.1.below hb,Bk.keep hb h.2.2⟩
 have VA:Hid (∀{v:Value} {cs:List (List Ev)} {W:World} (x:Ev),V v cs W->cs.length<=100->∃A cq W1,(Builtin.append_ #[232,232] 232 #[v,.slice (some ⟨W.heap.size+1,0,none⟩) 1 1]).run prog ((W.alloc (.cells #[x.k,x.i,x.q,x.p.s,x.p.d,x.p.sp,x.p.dp,x.c] 47)).alloc (.cells #[.slice (some ⟨W,0,none⟩) 1 1] 209))=.ok (.slice A (cs.length+1) cq) W1 /\ V (.slice A (cs.length+1) cq) (cs++[[x]]) W1):=λ{v cs W} x h hl=>by
  rw[hV]at h ⊢;have e1:=eC W [x] (by simp) (B:=w.heap.size) h.1.size;have h':=h.2.1.below (Below.alN (Below.refl W W) (.cells ([x].flatMap evC).toArray 47));have hb':=h.2.2.alloc (.cells ([x].flatMap evC).toArray 47);have d':=Below.alN h.1 (.cells ([x].flatMap evC).toArray 47);obtain⟨A',c',W1,h1,h2,h3,h4⟩:=h'.add e1 (by omega) d'.size;simp only[World.size_alloc]at h1;refine⟨A',c',W1,h1,d'.trans h3,h2,?_⟩;have hne:some w.heap.size≠v.ownBlock:=λe=>by
   obtain⟨vs,_,ho,_⟩:=h.2.1;obtain⟨_,_,cur,hc⟩:=cg ho e.symm;have hb:W.heap[w.heap.size]?=_:=h.2.2;rw[hb]at hc;cases hc
  exact(h4.block _ hb'.lt hne).trans hb'
 have VZ:Hid (∀{v:Value} {cs:List (List Ev)} {W:World},V v cs W->∃A' c',v=.slice A' cs.length c' /\ CsRow w W (.slice A' cs.length c') cs /\ Below w w W):=λ{v cs W} h=>by
  rw[hV]at h;obtain⟨A',c',e⟩:=h.2.1.slice;exact⟨A',c',e,by rw[<- e];exact h.2.1,h.1⟩
 have HP:Hid (∀(q:Int) W,CB 172 #[i,q,pkV p,.int .i64 0] W (evV (ac i q p 0))):=λq W=>da i q p 0 W;have PO:Hid (∀W,CS 62 #[.int .i64 2] W (.int .i64 4)):=λW=>jd 2 W;clear hV D1;go_enter func171,ntmps171;go_wp2_with fail;refine(PO.out _).mono ?_;rintro e w1⟨rfl,rfl⟩;clear PO;go_wp2_with fail;go_loopw[5,8] (λs5 s8 wr=>∃k:Nat,s8=.int .i64 (k:Int) /\ k<=4 /\ V s5 ((List.range k).map λ(q:Nat)=>[ac i (q:Int) p 0]) wr) (λ_ s8 _=>4-(intOf s8).toNat)
 case atStart=>exact⟨0,rfl,by omega,V0⟩
 case round =>
  clear V0;obtain⟨k,rfl,hk,V1⟩:=hrel;by_cases hkl:k<4
  ·have hN:Hid (((List.range (k+1)).map λ(q:Nat)=>[ac i (q:Int) p 0])=((List.range k).map λ(q:Nat)=>[ac i (q:Int) p 0])++[[ac i (k:Int) p 0]]):=by
    show _=_;rw[List.range_succ,List.map_append];rfl
   have hl:((List.range k).map λ(q:Nat)=>[ac i (q:Int) p 0]).length=k:=by simp
   obtain⟨n0,n1,n2,n3,n4⟩:=VN.out V1;have k2:(k:Int)<4:=by omega
   have HPk:=hidOf (HP.out (k:Int));clear HP;go_wp2_with fail;refine(HPk.out _).mono ?_;rintro e w3⟨rfl,hb3⟩;have V3:=VB.out V1 hb3;obtain⟨A',cq,W1,hr,V4⟩:=VA.out (ac i (k:Int) p 0) V3 (by omega);rw[hl]at hr V4;clear VN VA VZ VB V1 V3 hb3 n0 n1 n2 n3 n4 HPk hl;go_wp2_with (at_builtin;refine eu rfl _ _ 232 rfl rfl rfl hr ?_);clear hr;go_roundw
   case rel=>exact⟨k+1,by go_num,by omega,by rw[hN.out];exact V4⟩
   case measure=>simp[intOf];omega
  ·obtain rfl:k=4:=by omega
   obtain⟨A',c',rfl,h1,h2⟩:=VZ.out V1;clear VN VA VZ VB HP V1;go_wp2_with fail;go_ret;exact⟨A',c',_,rfl,⟨rfl,h1⟩,h2⟩
def inM(sa sb sc sd:Nat)(p:Pk):Bool:=sa.testBit p.s.toNat&&(sb.testBit p.d.toNat&&(sc.testBit p.sp.toNat&&sd.testBit p.dp.toNat))
def fh(rd:Arv->Int)(t:Int × Int)(sa sb sc sd:Nat)(r:Option Pk):Prop :=
 match r with
 | none=>∀p,ae p=true->inM sa sb sc sd p=true->rd (t,p)<0
 | some p=>ae p=true /\ inM sa sb sc sd p=true /\ 0<=rd (t,p) /\ ∀q,ae q=true->inM sa sb sc sd q=true->0<=rd (t,q)->rd (t,p)<=rd (t,q)
abbrev mtV(sa sb sc sd:Nat):Value:=.agg #[.int .u16 (sa:Int),.int .u16 (sb:Int),.int .u8 (sc:Int),.int .u8 (sd:Int)]
def FstC(R:Nat)(rd:Arv->Int)(w:World):Prop:=∀(t:Int × Int) (sa sb sc sd:Nat) (W:World),Below w w W->sa<65536->sb<65536->sc<256->sd<256->Cl 8 #[.pointer R,plA t.1 t.2,mtV sa sb sc sd] W λe w'=>(∃(r:Option Pk) (x:Pk) (ok:Bool),e=.returned (.tuple #[pkV x,.bool ok]) /\ Hid (fh rd t sa sb sc sd r /\ x=r.getD zeroP /\ ok=r.isSome)) /\ Below W W w'
theorem FstC.below{R:Nat}{rd:Arv->Int}{w W:World}(h:FstC R rd w)(hb:Below w w W):FstC R rd W:=λt sa sb sc sd W' h'=>h t sa sb sc sd W' (ag h' hb)
theorem kn(A L:Option Addr)(nd cap nl e9 R:Nat)(rd:Arv->Int)(i q:Int)(sa sb sc sd:Nat)(w:World)(hF:Hid (FstC R rd w))(ha:sa<65536)(hb:sb<65536)(hc:sc<256)(hd:sd<256) :
  Cl 203 #[fdV A nd cap L nl e9 R,i,q,mtV sa sb sc sd] w λe w'=>(∃(r:Option Pk) (x:Pk) (ok:Bool),e=.returned (.tuple #[pkV x,.bool ok]) /\ Hid (fh rd (i,q) sa sb sc sd r /\ x=r.getD zeroP /\ ok=r.isSome)) /\ Below w w w':=by
 obtain⟨w1,hw1⟩:∃w1,w1=((w.alloc (.cells #[.slice A nd cap,.slice L nl e9,.pointer R] 164)).alloc (.cells #[.int .u16 (sa:Int),.int .u16 (sb:Int),.int .u8 (sc:Int),.int .u8 (sd:Int)] 30)).alloc (.cells #[.int .i64 0,.int .i64 0,.int .i64 0,.int .i64 0] 37):=⟨_,rfl⟩;have D1:Below w w w1:=by
  rw[hw1];exact Below.alN (Below.alN (Below.alN (Below.refl _ _) _) _) _
 have B1:Bk w1 (w.heap.size+1+1) #[.int .i64 0,.int .i64 0,.int .i64 0,.int .i64 0] 37:=by
  rw[hw1];exact ax _ _ _ _ (by simp)
 have FF:=hidOf (hF.out (i,q) sa sb sc sd w1 D1 ha hb hc hd);subst hw1;clear hF ha hb hc hd;go_enter func203,ntmps203;go_wp2_with fail;refine FF.out.mono ?_;rintro e w2⟨⟨r,⟨xs,xd,xsp,xdp⟩,ok,rfl,hr⟩,hb2⟩;have D2:=ag hb2 D1;have B2:=Bk.keep hb2 B1;clear FF D1 B1 hb2;obtain⟨q0,q1,q2,q3,_⟩:=B2.four;have lq:=B2.lt;have f0:=B2.fz 0;have f1:=B2.fz 1;have f2:=B2.fz 2;have f3:=B2.fz 3;have D3:=(((D2.setCell (p:=⟨w.heap.size+1+1,0,none⟩) (by show _<=w.heap.size+1+1;omega) (.int .i64 xs)).setCell (p:=⟨w.heap.size+1+1,1,none⟩) (by show _<=w.heap.size+1+1;omega) (.int .i64 xd)).setCell (p:=⟨w.heap.size+1+1,2,none⟩) (by show _<=w.heap.size+1+1;omega) (.int .i64 xsp)).setCell (p:=⟨w.heap.size+1+1,3,none⟩) (by show _<=w.heap.size+1+1;omega) (.int .i64 xdp);have B3:Bk ((((w2.setCell ⟨w.heap.size+1+1,0,none⟩ (.int .i64 xs)).setCell ⟨w.heap.size+1+1,1,none⟩ (.int .i64 xd)).setCell ⟨w.heap.size+1+1,2,none⟩ (.int .i64 xsp)).setCell ⟨w.heap.size+1+1,3,none⟩ (.int .i64 xdp)) (w.heap.size+1+1) #[xs,xd,xsp,xdp] 37:=by
  have:=(((B2.setS (j:=0) (.int .i64 xs)).setS (j:=1) (.int .i64 xd)).setS (j:=2) (.int .i64 xsp)).setS (j:=3) (.int .i64 xdp);simpa using this
 obtain⟨c0,c1,c2,c3,_⟩:=B3.four;have c0:=hidOf c0;have c1:=hidOf c1;have c2:=hidOf c2;have c3:=hidOf c3;clear B2 B3 D2;go_wp2_with fail;refine bodyPost_ret (v:=.tuple #[pkV ⟨xs,xd,xsp,xdp⟩,.bool ok]) (by simp[results,results203,go_sem,c0.out,c1.out,c2.out,c3.out]) rfl ⟨⟨r,_,ok,rfl,hr⟩,D3⟩
end Go.Proofs.YtjmclcmgpaofiaaGreat
