/-
  XAN.
-/
import Derived.Test.YtppbfikimalojaaGreatXAM
import Derived.Test.YtppbfikimalojaaGreatXAA
import Derived.Test.YtppbfikimalojaaGreatXAK
import Derived.Test.YtppbfikimalojaaGreatXAL
import Derived.Test.YtppbfikimalojaaGreatProg
import Derived.Maps.OwnSet
import Derived.WalkKit
import Derived.DeepKeys5
set_option maxHeartbeats 8000000
set_option maxRecDepth 100000
namespace Go.Proofs.YtppbfikimalojaaGreat
open Tryz
open Go.RowKit Go.Maps
def Hi(lo:Nat)(v:Value):Prop:=∀b o n c,v=.slice (some ⟨b,o,none⟩) n c->n≠0->lo<=b
theorem Hi.of{lo:Nat}{v:Value}(h:NotIn 0 lo v):Hi lo v:=λb o n c e hn=>by
 have:=h b o n c e hn;omega
theorem Hi.b{lo k:Nat}{v:Value}(h:Hi lo v)(hk:k<lo):NotB k v:=λb o n c e hn=>by
 have:=h b o n c e hn;omega
def Part(lo g:Nat)(S:Nat->Prop)(w:World):Prop:=∀o v,S o->w.cell? ⟨g,o,none⟩=some v->Hi lo v
theorem Part.below{lo g:Nat}{S:Nat->Prop}{w w':World}(h:Part lo g S w)(hb:Below w.heap.size w w')(hg:g<w.heap.size):Part lo g S w':=λo v hs hv=>h o v hs ((hb.cell (p:=⟨g,o,none⟩) hg).symm.trans hv)
theorem Part.mono{lo g:Nat}{S S':Nat->Prop}{w:World}(h:Part lo g S w)(hs:∀o,S' o->S o):Part lo g S' w:=λo v h' hv=>h o v (hs o h') hv
theorem Part.other{lo g k j:Nat}{S:Nat->Prop}{w:World}{u:Value}(h:Part lo g S w)(hk:g≠k):Part lo g S (w.setCell ⟨k,j,none⟩ u):=λo v hs hv=>h o v hs ((eq (o:=o) (Below.heap_setCell w ⟨k,j,none⟩ u g hk)).symm.trans hv)
theorem Part.set{lo g j:Nat}{S:Nat->Prop}{w:World}{u:Value}(h:Part lo g S w)(hB:IsB w g)(hu:Hi lo u):Part lo g (λo=>S o\/o=j) (w.setCell ⟨g,j,none⟩ u):=λo v hs hv=>by
 obtain⟨cs,t,hB⟩:=hB;have hB':=hB.setS (j:=j) u;rw[hB'.at]at hv;by_cases e:j=o
 ·subst e;rw[Array.getElem?_setIfInBounds]at hv;simp only[if_true]at hv
  split at hv
  ·obtain rfl:=Option.some.inj hv;exact hu
  ·cases hv
 ·rw[Array.getElem?_setIfInBounds,if_neg e,<- hB.at]at hv;exact h o v (hs.resolve_right (λe'=>e e'.symm)) hv
def dn(k:Nat)(o:Nat):Prop:=∃k',k'<k/\(o=k'*7+4\/o=k'*7+5\/o=k'*7+6)
theorem tj{k o:Nat}(h:dn (k+1) o):((dn k o\/o=k*7+4)\/o=k*7+5)\/o=k*7+6:=by
 obtain⟨k',h1,h2⟩:=h;by_cases e:k'=k
 ·subst e;rcases h2 with h|h|h
  ·exact Or.inl (Or.inl (Or.inr h))
  ·exact Or.inl (Or.inr h)
  ·exact Or.inr h
 ·exact Or.inl (Or.inl (Or.inl ⟨k',by omega,h2⟩))
def Deep(lo:Nat)(w:World)(A:Option Addr)(n:Nat):Prop:=n≠0->∃g,A=some ⟨g,0,none⟩/\lo<=g/\Part lo g (dn n) w
def CopyDeep(w:World)(ds:List Dv)(ls:List Lk)(e:Ending)(w':World):Prop :=
 ∃A cap B d8,e=.returned (.agg #[.slice A ds.length cap,.slice B ls.length d8])/\Devs w'.heap.size w' (.slice A ds.length cap) ds/\Links w'.heap.size w' (.slice B ls.length d8) ls/\Below w.heap.size w w'/\Deep w.heap.size w' A ds.length/\Hi w.heap.size (.slice B ls.length d8)
theorem tl(A B:Option Addr)(cap d8:Nat)(ds:List Dv)(ls:List Lk)(w:World)(hD:Hid (Devs w.heap.size w (.slice A ds.length cap) ds))(hL:Hid (Links w.heap.size w (.slice B ls.length d8) ls))(hS:Hid (Small ds ls)) :
  Calls prog 186 #[.agg #[.slice A ds.length cap,.slice B ls.length d8]] w (CopyDeep w ds ls):=by
 have hsz:=hS.out.nd;have CD:Hid (∀W,Below w.heap.size w W->Calls prog 210 #[.slice A ds.length cap] W λe w'=>∃A cap,e=.returned (.slice A ds.length cap)/\Fresh W.heap.size w' A cap w ds/\Below W.heap.size W w'):=λW h=>wT W hD.out h hS.out.nd;have CL:Hid (∀W,Below w.heap.size w W->Calls prog 211 #[.slice B ls.length d8] W λe w'=>∃A cap,e=.returned (.slice A ls.length cap)/\SlAt w'.heap.size w' 4 S7 (.slice A ls.length cap) ls/\(∀lo hi,hi<=W.heap.size->NotIn lo hi (.slice A ls.length cap))/\Below W.heap.size W w'):=λW h=>wX W ((hL.out.below h).mono h.size) hS.out.nl;have D2:=Below.alN (Below.alN (Below.refl w.heap.size w) (.cells #[.slice A ds.length cap,.slice B ls.length d8] 25)) (.cells #[.slice none 0 0,.slice none 0 0] 25);have N2:=(i7 w #[.slice A ds.length cap,.slice B ls.length d8] 25).alloc (.cells #[.slice none 0 0,.slice none 0 0] 25);have R2:=E0 (w.alloc (.cells #[.slice A ds.length cap,.slice B ls.length d8] 25)) #[.slice none 0 0,.slice none 0 0] 25 (w.heap.size+1) (by simp);have S2:=N2.two;have D2d:=D2.drew;have N2d:=N2.drew;have R2d:=R2.drew;have D2a:=(Below.alN D2 (.cells #[.slice none 0 0,.slice none 0 0] 25)).drew;have N2a:=(N2.alloc (.cells #[.slice none 0 0,.slice none 0 0] 25)).drew;have R2a:=(R2.alloc (.cells #[.slice none 0 0,.slice none 0 0] 25)).drew;have G2a:=(E0 ((w.alloc (.cells #[.slice A ds.length cap,.slice B ls.length d8] 25)).alloc (.cells #[.slice none 0 0,.slice none 0 0] 25)) #[.slice none 0 0,.slice none 0 0] 25 (w.heap.size+1+1) (by simp)).drew;clear hD hL;obtain⟨n0,n1⟩:=S2;go_enter func186,ntmps186;go_wp2_with fail;go_cut [3] (λv3 wx=>∃g A1 c1 B1 c2,v3=.pointer (some ⟨g,0,none⟩)/\Bk wx g #[.slice A1 ds.length c1,.slice B1 ls.length c2] 25/\w.heap.size+1<g/\Fresh (w.heap.size+1+1) wx A1 c1 w ds/\(∀g',A1=some ⟨g',0,none⟩->ds.length≠0->g'≠g)/\SlAt wx.heap.size wx 4 S7 (.slice B1 ls.length c2) ls/\NotB g (.slice B1 ls.length c2)/\NotB (w.heap.size+1) (.slice B1 ls.length c2)/\(∀g',A1=some ⟨g',0,none⟩->ds.length≠0->NotB g' (.slice B1 ls.length c2))/\Bk wx (w.heap.size+1) #[.slice none 0 0,.slice none 0 0] 25/\Below w.heap.size w wx/\Hi w.heap.size (.slice B1 ls.length c2))
 case first =>
  go_region_held3 (λw'=>w'.cell? ⟨w.heap.size,0,none⟩=some (.slice A ds.length cap)/\w'.cell? ⟨w.heap.size,1,none⟩=some (.slice B ls.length d8)) (first|exact Bk.two (by first|assumption|exact Bk.alloc ‹_› _)|exact Bk.two ((N6.setO (by omega) _).setO (by omega) _)) (first|(go_at_call 210;refine(CD.out _ D2d).mono ?_;rintro e w5⟨A1,c1,rfl,F5,hb5⟩;have D5:=f7 hb5 D2d;have N5:=N2d.keep hb5;have R5:=R2d.keep hb5;have z5:=R5.lt;have F5l:=F5.lo (lo':=w.heap.size+1+1) (by simp))|(go_at_call 210;refine(CD.out _ D2a).mono ?_;rintro e w5⟨A1,c1,rfl,F5,hb5⟩;have D5:=f7 hb5 D2a;have N5:=N2a.keep hb5;have R5:=R2a.keep hb5;have G5:=G2a.keep hb5;have z5:=G5.lt;have F5l:=F5.lo (lo':=w.heap.size+1+1+1) (by simp))|(go_at_call 211;refine(CL.out _ D5).mono ?_;rintro e w6⟨B1,c2,rfl,K6,Z6,hb6⟩;have D6:=f7 hb6 D5;have N6:=N5.keep hb6;have R6:=R5.keep hb6;have F6:=F5l.below hb6;have G6:=G5.keep hb6;have gf0:=G6.fz 0;have gf1:=G6.fz 1;obtain⟨gg0,gg1⟩:=G6.two)|(go_at_call 211;refine(CL.out _ D5).mono ?_;rintro e w6⟨B1,c2,rfl,K6,Z6,hb6⟩;have D6:=f7 hb6 D5;have N6:=N5.keep hb6;have R6:=R5.keep hb6;have F6:=F5l.below hb6)|(go_at_call 211;refine(CL.out _ (Below.alN D5 (.cells #[.slice none 0 0,.slice none 0 0] 25))).mono ?_;rintro e w6⟨B1,c2,rfl,K6,Z6,hb6⟩;have D6:=f7 hb6 (Below.alN D5 (.cells #[.slice none 0 0,.slice none 0 0] 25));have N6:=(N5.alloc (.cells #[.slice none 0 0,.slice none 0 0] 25)).keep hb6;have R6:=(R5.alloc (.cells #[.slice none 0 0,.slice none 0 0] 25)).keep hb6;have F6:=(F5l.below ((Below.refl _ _).alloc (Nat.le_refl _) (.cells #[.slice none 0 0,.slice none 0 0] 25))).below hb6;have G6:=(i7 w5 #[.slice none 0 0,.slice none 0 0] 25).keep hb6;have gf0:=G6.fz 0;have gf1:=G6.fz 1;obtain⟨gg0,gg1⟩:=G6.two))
  all_goals
   go_wp2_with fail
   go_meet
   have y6:=hb6.size;first
    | exact⟨_,_,_,_,_,rfl,i7 w6 _ _,(by omega),F6.below ((Below.refl _ _).alloc (Nat.le_refl _) _),(λg' e hn=>by have:=F6.lt e hn;omega),SlAt.mono (SlAt.below K6 ((Below.refl _ w6).alloc (Nat.le_refl _) _) (λ_ _ _ h=>h)) (by simp) (λ_ _ _ h=>h),(λb o n c e hn=>by have:=(Z6 0 w5.heap.size (by simp) b o n c e hn);have q:=SlAt.notIn (hi:=w6.heap.size+1) K6 b o n c e hn;omega),NotB.of (λlo hi h=>Z6 lo hi (by omega)),(λg' e hn=>NotB.of (λlo hi h=>Z6 lo hi (by have:=F5l.lt e hn;omega))),R6.alloc _,Below.alN D6 _,Hi.of (Z6 0 w.heap.size (by omega))⟩
    | ((try simp only[World.size_alloc]at y6 Z6)
       exact⟨_,_,_,_,_,rfl,(by have:=(G6.setS (j:=0) (.slice A1 ds.length c1)).setS (j:=1) (.slice B1 ls.length c2);simpa using this),(by omega),((F6.set (λg' e hn=>by have:=F5l.lt e hn;omega)).set (λg' e hn=>by have:=F5l.lt e hn;omega)).lo (by omega),(λg' e hn=>by have:=F5l.lt e hn;omega),(by have:=(K6.setB (k:=w.heap.size+1+1) (j:=0) (u:=.slice A1 ds.length c1) (NotB.of (λlo hi h=>Z6 lo hi (by omega)))).setB (k:=w.heap.size+1+1) (j:=1) (u:=.slice B1 ls.length c2) (NotB.of (λlo hi h=>Z6 lo hi (by omega)));simpa[World.setCell]using this),NotB.of (λlo hi h=>Z6 lo hi (by omega)),NotB.of (λlo hi h=>Z6 lo hi (by omega)),(λg' e hn=>NotB.of (λlo hi h=>Z6 lo hi (by have:=F5l.lt e hn;omega))),(R6.setO (by omega) _).setO (by omega) _,(D6.setCell (by simp;omega) _).setCell (by simp;omega) _,Hi.of (Z6 0 w.heap.size (by omega))⟩)
    | ((try simp only[World.size_alloc]at y6 Z6)
       exact⟨_,_,_,_,_,rfl,(by have:=(G6.setS (j:=0) (.slice A1 ds.length c1)).setS (j:=1) (.slice B1 ls.length c2);simpa using this),(by omega),((F6.set (λg' e hn=>by have:=F5l.lt e hn;omega)).set (λg' e hn=>by have:=F5l.lt e hn;omega)).lo (by omega),(λg' e hn=>by have:=F5l.lt e hn;omega),(by have:=(K6.setB (k:=w5.heap.size) (j:=0) (u:=.slice A1 ds.length c1) (NotB.of (λlo hi h=>Z6 lo hi (by omega)))).setB (k:=w5.heap.size) (j:=1) (u:=.slice B1 ls.length c2) (NotB.of (λlo hi h=>Z6 lo hi (by omega)));simpa[World.setCell]using this),NotB.of (λlo hi h=>Z6 lo hi (by omega)),NotB.of (λlo hi h=>Z6 lo hi (by omega)),(λg' e hn=>NotB.of (λlo hi h=>Z6 lo hi (by have:=F5l.lt e hn;omega))),(R6.setO (by omega) _).setO (by omega) _,(D6.setCell (by simp;omega) _).setCell (by simp;omega) _,Hi.of (Z6 0 w.heap.size (by omega))⟩)
 case rest =>
  clear D2 N2 R2 D2d N2d R2d D2a N2a R2a G2a n0 n1 CD CL;obtain⟨g,A1,c1,B1,c2,rfl,G4,zg,F4,hgg,K4,nb1,nb2,nb3,R4,D4,U4⟩:=hcut;by_cases hn:ds.length=0
  ·have hds:ds=[]:=List.length_eq_zero_iff.1 hn;obtain⟨f0,f1,f2,_⟩:=F4;subst hds;clear hgg nb3 hn;simp only[List.length_nil]at *;obtain⟨x0,x1⟩:=G4.two;go_wp2_with fail;go_loopw[16] (λi wr=>i=.int .i64 0/\Below w.heap.size w wr/\Bk wr g #[.slice A1 0 c1,.slice B1 ls.length c2] 25/\Bk wr (w.heap.size+1) #[.slice none 0 0,.slice none 0 0] 25/\SlAt wr.heap.size wr 4 S7 (.slice B1 ls.length c2) ls) (λi _=>0)
   case atStart=>exact⟨rfl,D4,G4,R4,K4⟩
   case round =>
    clear D4 G4 R4 K4 x0 x1;obtain⟨rfl,D4,G4,R4,K4⟩:=hrel;obtain⟨x0,x1⟩:=G4.two;obtain⟨r0,r1⟩:=R4.two;have rf0:=R4.fz 0;have rf1:=R4.fz 1;go_wp2_with fail;refine bodyPost_ret (v:=.agg #[.slice A1 0 c1,.slice B1 ls.length c2]) (by simp[results,results186,go_sem,r0,r1]) rfl ⟨A1,c1,B1,c2,rfl,⟨A1,c1,rfl,f0,f1,f2,λh=>absurd rfl h⟩,?_,?_,λh=>absurd rfl h,U4⟩
    ·have:=(K4.setB (k:=w.heap.size+1) (j:=0) (u:=.slice A1 0 c1) nb2).setB (k:=w.heap.size+1) (j:=1) (u:=.slice B1 ls.length c2) nb2;unfold Links;simpa[World.setCell]using this
    ·exact(D4.setCell (by simp) _).setCell (by simp) _
  obtain⟨f0,f1,f2,_⟩:=id F4;obtain⟨g',rfl,hl,hg',I4,V4⟩:=F4.row (hi:=wc.heap.size) D4 hn;have hgg:=hgg g' rfl hn;have nb3:=nb3 g' rfl hn;have zR:=R4.lt;have hgHI:g'<wc.heap.size:=hg';obtain⟨x0,x1⟩:=G4.two;generalize hHI:wc.heap.size=HI at *;clear F4 hn;unfold maxLen at f2;go_wp2_with fail;go_loopw[16] (λi wr=>∃k:Nat,i=.int .i64 (k:Int)/\k<=ds.length/\Below w.heap.size w wr/\Bk wr g #[.slice (some ⟨g',0,none⟩) ds.length c1,.slice B1 ls.length c2] 25/\Bk wr (w.heap.size+1) #[.slice none 0 0,.slice none 0 0] 25/\SlAt wr.heap.size wr 4 S7 (.slice B1 ls.length c2) ls/\IsB wr g'/\DvRow w.heap.size HI g' wr ds/\g'<wr.heap.size/\HI<=wr.heap.size/\Part w.heap.size g' (dn k) wr) (λi _=>ds.length-(intOf i).toNat)
  case atStart=>exact⟨0,rfl,by omega,D4,G4,R4,by rw[hHI];exact K4,I4,V4,by omega,by omega,λo v ⟨k',h,_⟩=>absurd h (by omega)⟩
  case round =>
   clear D4 G4 R4 K4 I4 V4 x0 x1 hHI;obtain⟨k,rfl,hk,D1,G1,R1,K1,I1,V1,zg1,zh1,P1⟩:=hrel;obtain⟨x0,x1⟩:=G1.two;by_cases hlt:k<ds.length
   rotate_left
   ·obtain⟨r0,r1⟩:=R1.two;have rf0:=R1.fz 0;have rf1:=R1.fz 1;go_wp2_with fail;refine bodyPost_ret (v:=.agg #[.slice (some ⟨g',0,none⟩) ds.length c1,.slice B1 ls.length c2]) (by simp[results,results186,go_sem,r0,r1]) rfl ⟨_,c1,B1,c2,rfl,?_,?_,?_,λ_=>⟨g',rfl,by omega,(((P1.other (by omega)).other (by omega)).mono (λo h=>by obtain⟨k',h1,h2⟩:=h;exact⟨k',by omega,h2⟩))⟩,U4⟩
    ·have:=((V1.other (k:=w.heap.size+1) (j:=0) (u:=.slice (some ⟨g',0,none⟩) ds.length c1) (by omega) (by omega) (by omega)).other (k:=w.heap.size+1) (j:=1) (u:=.slice B1 ls.length c2) (by omega) (by omega) (by omega)).devs (cap:=c1) (by simpa[World.setCell]using zg1) f1 (by unfold maxLen;omega);exact this
    ·have:=(K1.setB (k:=w.heap.size+1) (j:=0) (u:=.slice (some ⟨g',0,none⟩) ds.length c1) nb2).setB (k:=w.heap.size+1) (j:=1) (u:=.slice B1 ls.length c2) nb2;unfold Links;simpa[World.setCell]using this
    ·exact(D1.setCell (by simp) _).setCell (by simp) _
   obtain⟨d,hxk⟩:∃d,ds[k]?=some d:=⟨_,List.getElem?_eq_getElem hlt⟩;have HX:Hid (ds[k]?=some d):=hxk;have k1:(0:Int)<=(k:Int):=by omega
   have k2:(k:Int)<(ds.length:Int):=by omega
   clear hxk;obtain⟨vb1,vr1,vt1,⟨c0,c1',c2',c3,c4,c5,c6⟩,⟨s1,s2,s3⟩,_,_,_⟩:=V1 k d HX.out;obtain⟨Ab,cb,rfl,_⟩:=id s1;obtain⟨Ar,cr,rfl,_⟩:=id s2;obtain⟨At,ct,rfl,_⟩:=id s3;have CC:Hid (Calls prog 212 #[.slice Ab d.backs.length cb] _ _):=wU _ s1 (hS.out.backs d (List.mem_of_getElem? HX.out));have HL1:Hid (d.backs.length=d.backs.length):=rfl;clear s1 s2 s3;go_wp2_with fail;refine CC.out.mono ?_;rintro e w20⟨A2,q2,rfl,S2,Z2,hb2⟩;have yy2:=hb2.size;have D20:=f7 hb2 D1;have G20:=G1.keep hb2;have R20:=R1.keep hb2;have K20:=SlAt.mono (SlAt.below K1 hb2 (λ_ _ _ h=>h)) hb2.size (λ_ _ _ h=>h);have I20:=I1.below hb2;have V20:=V1.below hb2;have zg2:g'<w20.heap.size:=by omega
   have zh2:HI<=w20.heap.size:=by omega
   have V2:=V20.set4 HX.out S2 (Z2 _ _ zh1) (by omega) hgHI;have D2:=D20.setCell (p:=⟨g',k*7+4,none⟩) (by simp;omega) (.slice A2 d.backs.length q2);have G2:=G20.setO (b:=g') (j:=k*7+4) (by omega) (.slice A2 d.backs.length q2);have R2:=R20.setO (b:=g') (j:=k*7+4) (by omega) (.slice A2 d.backs.length q2);have K2:=K20.setB (k:=g') (j:=k*7+4) (u:=.slice A2 d.backs.length q2) nb3;have I2:=I20.set (k:=g') (j:=k*7+4) (u:=.slice A2 d.backs.length q2);have P2:=(P1.below hb2 zg1).set (j:=k*7+4) I20 (Hi.of (Z2 0 w.heap.size (by omega)));clear P1;have fz2:=I20.fz (k*7+4);obtain⟨_,_,_,⟨_,_,_,_,e4,e5,e6⟩,_⟩:=V20 k d HX.out;have ee2:∃v,w20.cell? ⟨g',k*7+4,none⟩=some v:=⟨_,e4⟩;obtain⟨ev2,ec2⟩:=ee2;have sz2:(w20.setCell ⟨g',k*7+4,none⟩ (.slice A2 d.backs.length q2)).heap.size=w20.heap.size:=by simp[World.setCell]
   rw[sz2.symm]at K2 zg2 zh2;clear V1 D1 G1 R1 K1 I1 c0 c1' c2' c3 c4 c5 c6 e4 e5 e6 CC S2 Z2 hb2 V20 D20 G20 R20 K20 I20 HL1 zg1 zh1 yy2;go_upto_region 7 with fail;generalize hW2:w20.setCell ⟨g',k*7+4,none⟩ (.slice A2 d.backs.length q2)=w2 at *;clear hW2 fz2 ec2 sz2;obtain⟨vb2,vr2,vt2,⟨c0,c1',c2',c3,c4,c5,c6⟩,⟨s1,s2,s3⟩,_,_,_⟩:=V2 k d HX.out;obtain⟨Ab,cb,rfl,_⟩:=id s1;obtain⟨Ar,cr,rfl,_⟩:=id s2;obtain⟨At,ct,rfl,_⟩:=id s3;have CC:Hid (Calls prog 213 #[.slice Ar d.rules.length cr] _ _):=wV _ s2 (hS.out.rules d (List.mem_of_getElem? HX.out));have HL2:Hid (d.rules.length=d.rules.length):=rfl;clear s1 s2 s3;go_wp2_with fail;refine CC.out.mono ?_;rintro e w30⟨A3,q3,rfl,S3,Z3,hb3⟩;have yy3:=hb3.size;have D30:=f7 hb3 D2;have G30:=G2.keep hb3;have R30:=R2.keep hb3;have K30:=SlAt.mono (SlAt.below K2 hb3 (λ_ _ _ h=>h)) hb3.size (λ_ _ _ h=>h);have I30:=I2.below hb3;have V30:=V2.below hb3;have zg3:g'<w30.heap.size:=by omega
   have zh3:HI<=w30.heap.size:=by omega
   have V3:=V30.set5 HX.out S3 (Z3 _ _ zh2) (by omega) hgHI;have D3:=D30.setCell (p:=⟨g',k*7+5,none⟩) (by simp;omega) (.slice A3 d.rules.length q3);have G3:=G30.setO (b:=g') (j:=k*7+5) (by omega) (.slice A3 d.rules.length q3);have R3:=R30.setO (b:=g') (j:=k*7+5) (by omega) (.slice A3 d.rules.length q3);have K3:=K30.setB (k:=g') (j:=k*7+5) (u:=.slice A3 d.rules.length q3) nb3;have I3:=I30.set (k:=g') (j:=k*7+5) (u:=.slice A3 d.rules.length q3);have P3:=(P2.below hb3 zg2).set (j:=k*7+5) I30 (Hi.of (Z3 0 w.heap.size (by omega)));clear P2;have fz3:=I30.fz (k*7+5);obtain⟨_,_,_,⟨_,_,_,_,e4,e5,e6⟩,_⟩:=V30 k d HX.out;have ee3:∃v,w30.cell? ⟨g',k*7+5,none⟩=some v:=⟨_,e5⟩;obtain⟨ev3,ec3⟩:=ee3;have sz3:(w30.setCell ⟨g',k*7+5,none⟩ (.slice A3 d.rules.length q3)).heap.size=w30.heap.size:=by simp[World.setCell]
   rw[sz3.symm]at K3 zg3 zh3;clear V2 D2 G2 R2 K2 I2 c0 c1' c2' c3 c4 c5 c6 e4 e5 e6 CC S3 Z3 hb3 V30 D30 G30 R30 K30 I30 HL2 zg2 zh2 yy3;go_upto_region 8 with fail;generalize hW3:w30.setCell ⟨g',k*7+5,none⟩ (.slice A3 d.rules.length q3)=w3 at *;clear hW3 fz3 ec3 sz3;obtain⟨vb3,vr3,vt3,⟨c0,c1',c2',c3,c4,c5,c6⟩,⟨s1,s2,s3⟩,_,_,_⟩:=V3 k d HX.out;obtain⟨Ab,cb,rfl,_⟩:=id s1;obtain⟨Ar,cr,rfl,_⟩:=id s2;obtain⟨At,ct,rfl,_⟩:=id s3;have CC:Hid (Calls prog 214 #[.slice At d.routes.length ct] _ _):=wW _ s3 (hS.out.routes d (List.mem_of_getElem? HX.out));have HL3:Hid (d.routes.length=d.routes.length):=rfl;clear s1 s2 s3;go_wp2_with fail;refine CC.out.mono ?_;rintro e w40⟨A4,q4,rfl,S4,Z4,hb4⟩;have yy4:=hb4.size;have D40:=f7 hb4 D3;have G40:=G3.keep hb4;have R40:=R3.keep hb4;have K40:=SlAt.mono (SlAt.below K3 hb4 (λ_ _ _ h=>h)) hb4.size (λ_ _ _ h=>h);have I40:=I3.below hb4;have V40:=V3.below hb4;have zg4:g'<w40.heap.size:=by omega
   have zh4:HI<=w40.heap.size:=by omega
   have V4:=V40.set6 HX.out S4 (Z4 _ _ zh3) (by omega) hgHI;have D4:=D40.setCell (p:=⟨g',k*7+6,none⟩) (by simp;omega) (.slice A4 d.routes.length q4);have G4:=G40.setO (b:=g') (j:=k*7+6) (by omega) (.slice A4 d.routes.length q4);have R4:=R40.setO (b:=g') (j:=k*7+6) (by omega) (.slice A4 d.routes.length q4);have K4:=K40.setB (k:=g') (j:=k*7+6) (u:=.slice A4 d.routes.length q4) nb3;have I4:=I40.set (k:=g') (j:=k*7+6) (u:=.slice A4 d.routes.length q4);have P4:=(P3.below hb4 zg3).set (j:=k*7+6) I40 (Hi.of (Z4 0 w.heap.size (by omega)));clear P3;have fz4:=I40.fz (k*7+6);obtain⟨_,_,_,⟨_,_,_,_,e4,e5,e6⟩,_⟩:=V40 k d HX.out;have ee4:∃v,w40.cell? ⟨g',k*7+6,none⟩=some v:=⟨_,e6⟩;obtain⟨ev4,ec4⟩:=ee4;have sz4:(w40.setCell ⟨g',k*7+6,none⟩ (.slice A4 d.routes.length q4)).heap.size=w40.heap.size:=by simp[World.setCell]
   rw[sz4.symm]at K4 zg4 zh4;clear V3 D3 G3 R3 K3 I3 c0 c1' c2' c3 c4 c5 c6 e4 e5 e6 CC S4 Z4 hb4 V40 D40 G40 R40 K40 I40 HL3 zg3 zh3 yy4;go_upto_region 9 with fail;generalize hW4:w40.setCell ⟨g',k*7+6,none⟩ (.slice A4 d.routes.length q4)=w4 at *;clear hW4 fz4 ec4 sz4;go_wp2_with fail;go_roundw
   case rel=>exact⟨k+1,by go_num,by omega,D4,G4,R4,K4,I4,V4,zg4,zh4,P4.mono (λo h=>tj h)⟩
   case measure=>simp[intOf];omega
theorem Devs.blk{b9:Nat}{w:World}{A:Option Addr}{cap g:Nat}{ds:List Dv}(h:Devs b9 w (.slice A ds.length cap) ds)(hn:ds.length≠0)(e:A=some ⟨g,0,none⟩):g<b9:=by
 obtain⟨A',d8,e',h0,h1,h2,h3⟩:=h;obtain⟨rfl,_,rfl⟩:=Value.slice.inj e';obtain⟨b,o,ea,hl,_⟩:=h3 (λe0=>hn (by rw[e0];rfl));rw[e]at ea;cases ea;exact hl
theorem Deep.below{lo:Nat}{w w':World}{A:Option Addr}{cap:Nat}{ds:List Dv}(h:Deep lo w A ds.length)(hD:Devs w.heap.size w (.slice A ds.length cap) ds)(hb:Below w.heap.size w w'):Deep lo w' A ds.length:=λhn=>by
 obtain⟨g,e,h1,h2⟩:=h hn;exact⟨g,e,h1,h2.below hb (hD.blk hn e)⟩
theorem Devs.low{lo b9 k j:Nat}{w:World}{A:Option Addr}{cap:Nat}{ds:List Dv}{u:Value}(h:Devs b9 w (.slice A ds.length cap) ds)(hd:Deep lo w A ds.length)(hk:k<lo):Devs b9 (w.setCell ⟨k,j,none⟩ u) (.slice A ds.length cap) ds:=by
 obtain⟨A',d8,e',h0,h1,h2,h3⟩:=h;obtain⟨rfl,_,rfl⟩:=Value.slice.inj e';refine⟨A,cap,rfl,h0,h1,h2,λhx=>?_⟩;have hn:ds.length≠0:=λe=>hx (List.length_eq_zero_iff.1 e);obtain⟨b,o,ea,hl,hr⟩:=h3 hx;obtain⟨g,eg,hlo,hP⟩:=hd hn;rw[ea]at eg;cases eg;refine⟨b,0,ea,hl,λi x hi=>?_⟩;obtain⟨cs,c1,⟨vb,vr,vt,rfl,s4,s5,s6⟩,c3⟩:=hr i x hi;have hin:i<ds.length:=(List.getElem?_eq_some_iff.1 hi).1;have k4:=hP (i*7+4) vb ⟨i,hin,Or.inl rfl⟩ (by have:=c3 4 vb rfl;rwa [show 0+i*7+4=i*7+4 by omega]at this);have k5:=hP (i*7+5) vr ⟨i,hin,Or.inr (Or.inl rfl)⟩ (by have:=c3 5 vr rfl;rwa [show 0+i*7+5=i*7+5 by omega]at this);have k6:=hP (i*7+6) vt ⟨i,hin,Or.inr (Or.inr rfl)⟩ (by have:=c3 6 vt rfl;rwa [show 0+i*7+6=i*7+6 by omega]at this);exact⟨_,c1,⟨vb,vr,vt,rfl,s4.setB (k4.b hk),s5.setB (k5.b hk),s6.setB (k6.b hk)⟩,λj' u' hj=>(eq (Below.heap_setCell w ⟨k,j,none⟩ u b (show b≠k by omega))).trans (c3 j' u' hj)⟩
theorem Hi.lo{lo lo':Nat}{v:Value}(h:Hi lo v)(hl:lo'<=lo):Hi lo' v:=λb o n c e hn=>Nat.le_trans hl (h b o n c e hn)
theorem Deep.lo{lo lo':Nat}{w:World}{A:Option Addr}{n:Nat}(h:Deep lo w A n)(hl:lo'<=lo):Deep lo' w A n:=λhn=>by
 obtain⟨g,e,hg,hp⟩:=h hn;exact⟨g,e,Nat.le_trans hl hg,λo v hs hv=>(hp o v hs hv).lo hl⟩
theorem CopyDeep.store{w w':World}{ds:List Dv}{ls:List Lk}{e:Ending}{B k:Nat}{x y:Value}(h:CopyDeep w ds ls e w')(hB:B<=k)(hk:k<w.heap.size):Below B w ((w'.setCell ⟨k,0,none⟩ x).setCell ⟨k,1,none⟩ y) /\
  ∃A cap C d8,e=.returned (.agg #[.slice A ds.length cap,.slice C ls.length d8])/\Devs w'.heap.size ((w'.setCell ⟨k,0,none⟩ x).setCell ⟨k,1,none⟩ y) (.slice A ds.length cap) ds/\Links w'.heap.size ((w'.setCell ⟨k,0,none⟩ x).setCell ⟨k,1,none⟩ y) (.slice C ls.length d8) ls/\Deep w.heap.size ((w'.setCell ⟨k,0,none⟩ x).setCell ⟨k,1,none⟩ y) A ds.length/\Hi w.heap.size (.slice C ls.length d8):=by
 obtain⟨A,cap,C,d8,rfl,hD,hL,hb,hd,hh⟩:=h;have hF:∀i,i≠k->((w'.setCell ⟨k,0,none⟩ x).setCell ⟨k,1,none⟩ y).heap[i]?=w'.heap[i]?:=λi hi=>(Below.heap_setCell _ ⟨k,1,none⟩ y i hi).trans (Below.heap_setCell w' ⟨k,0,none⟩ x i hi);refine⟨⟨hb.os,hb.tape,hb.output,by simp[World.setCell];exact Nat.le_trans (by omega) hb.size,λi hi=>(hF i (by omega)).trans (hb.block i (by omega))⟩,A,cap,C,d8,rfl,?_,?_,?_,hh⟩
 ·have d1:=Devs.low (j:=0) (u:=x) hD hd hk;have hd':Deep w.heap.size (w'.setCell ⟨k,0,none⟩ x) A ds.length:=λhn=>by
   obtain⟨g,e,hg,hp⟩:=hd hn;exact⟨g,e,hg,hp.other (by omega)⟩
  exact Devs.low (j:=1) (u:=y) d1 hd' hk
 ·exact SlAt.setB (SlAt.setB hL (hh.b hk)) (hh.b hk)
 ·exact λhn=>by
   obtain⟨g,e,hg,hp⟩:=hd hn;exact⟨g,e,hg,(hp.other (by omega)).other (by omega)⟩
theorem SOn.drew{w W:World}{vd vl vm vk:Value}{gs:List Dv}{ms:List Lk}(h:SOn w vd vl vm vk gs ms W):SOn w vd vl vm vk gs ms W.drew:=h.below (bj W)
theorem tp(A B:Option Addr)(cap d8:Nat)(ds:List Dv)(ls:List Lk)(g c B0:Nat)(f:List Int)(w:World)(hz:Hid (netV ds ls=0))(hok:Hid (FOk ds f))(hsr:Hid (f.Pairwise (· <= ·)))(hf0:f.length≠0)(hD:Hid (Devs w.heap.size w (.slice A ds.length cap) ds))(hL:Hid (Links w.heap.size w (.slice B ls.length d8) ls))(hI:Hid (w.ownsRow B0 3 1 (.slice (some ⟨g,0,none⟩) f.length c) f.length (p8 f)))(hS:Hid (Small (e8 ds f) (e9 ls f))) :
  Calls prog 150 #[.agg #[.slice A ds.length cap,.slice B ls.length d8],.slice (some ⟨g,0,none⟩) f.length c] w (CopyDeep w (e8 ds f) (e9 ls f)):=by
 have hfl:=hok.out.len;obtain⟨b0,o0,_,_,_,rfl,hb0,-⟩:=hD.out.at (List.getElem?_eq_getElem (show 0<ds.length by omega));have h10:=(l7 hz.out).1;have h15:=(l7 hz.out).2.1;have hcap:=hD.out.len.2;have hcapL:=hL.out.len.2;obtain⟨_,_,he,_,hgl,hc1,hc2,-,hci⟩:=U7 hI.out hf0;cases he;unfold maxLen at hcap hcapL hc2;have V0:=SOn.start w (.slice (some ⟨b0,o0,none⟩) ds.length cap) (.slice B ls.length d8);have VI:Hid (∀vm vk gs ms W,SOn w (.slice (some ⟨b0,o0,none⟩) ds.length cap) (.slice B ls.length d8) vm vk gs ms W->g<W.heap.size/\∀j x,f[j]?=some x->W.cell? ⟨g,j,none⟩=some (.int .i64 x)):=λvm vk gs ms W h=>⟨Nat.lt_of_lt_of_le hgl h.be.size,λj x hj=>(h.be.cell (p:=⟨g,j,none⟩) hgl).trans (hci j _ (dj hj))⟩;have VN:Hid (∀vm vk gs ms W,SOn w (.slice (some ⟨b0,o0,none⟩) ds.length cap) (.slice B ls.length d8) vm vk gs ms W->w.heap.size+1+1<W.heap.size/\W.cell? ⟨w.heap.size,0,none⟩=some (.slice (some ⟨b0,o0,none⟩) ds.length cap)/\W.cell? ⟨w.heap.size,1,none⟩=some (.slice B ls.length d8)/\W.cell? ⟨w.heap.size+1+1,0,none⟩=some vm/\W.cell? ⟨w.heap.size+1+1,1,none⟩=some vk):=λvm vk gs ms W h=>⟨h.bM.lt,h.bN.two.1,h.bN.two.2,h.bM.two.1,h.bM.two.2⟩;have VL:Hid (∀vm vk gs ms W o,SOn w (.slice (some ⟨b0,o0,none⟩) ds.length cap) (.slice B ls.length d8) vm vk gs ms W->SOn w (.slice (some ⟨b0,o0,none⟩) ds.length cap) (.slice B ls.length d8) vm vk gs ms (W.alloc o)):=λvm vk gs ms W o h=>h.below (Below.alloc' (Below.refl _ _) _);have VW:Hid (∀vm vk gs ms W,SOn w (.slice (some ⟨b0,o0,none⟩) ds.length cap) (.slice B ls.length d8) vm vk gs ms W->SOn w (.slice (some ⟨b0,o0,none⟩) ds.length cap) (.slice B ls.length d8) vm vk gs ms W.drew):=λvm vk gs ms W h=>h.drew;have VD:Hid (∀vm vk gs ms W,SOn w (.slice (some ⟨b0,o0,none⟩) ds.length cap) (.slice B ls.length d8) vm vk gs ms W->∀j d,ds[j]?=some d->b0<W.heap.size/\∃vb vr vt,Hid (IsDv w.heap.size w [.string d.name,.int .i64 d.kind,.int .i64 d.addr,.int .u8 (d.pool:Int),vb,vr,vt] d)/\W.cell? ⟨b0,o0+j*7,none⟩=some (.string d.name)/\W.cell? ⟨b0,o0+j*7+1,none⟩=some (.int .i64 d.kind)/\W.cell? ⟨b0,o0+j*7+2,none⟩=some (.int .i64 d.addr)/\W.cell? ⟨b0,o0+j*7+3,none⟩=some (.int .u8 (d.pool:Int))/\W.cell? ⟨b0,o0+j*7+4,none⟩=some vb/\W.cell? ⟨b0,o0+j*7+5,none⟩=some vr/\W.cell? ⟨b0,o0+j*7+6,none⟩=some vt):=λvm vk gs ms W h j d hj=>by
  obtain⟨b,o,vb,vr,vt,e,hb,s1,s2,s3,c0,c1,c2,c3,c4,c5,c6⟩:=hD.out.at hj;cases e;have C:∀{o:Nat} {u:Value},w.cell? ⟨b0,o,none⟩=some u->W.cell? ⟨b0,o,none⟩=some u:=λ{o u} hc=>(h.be.cell (p:=⟨b0,o,none⟩) hb0).trans hc;exact⟨Nat.lt_of_lt_of_le hb0 h.be.size,vb,vr,vt,⟨vb,vr,vt,rfl,s1,s2,s3⟩,C c0,C c1,C c2,C c3,C c4,C c5,C c6⟩
 have VA:Hid (∀vm vk gs ms W,SOn w (.slice (some ⟨b0,o0,none⟩) ds.length cap) (.slice B ls.length d8) vm vk gs ms W->∀(d:Dv) (vb vr vt:Value),IsDv w.heap.size w [.string d.name,.int .i64 d.kind,.int .i64 d.addr,.int .u8 (d.pool:Int),vb,vr,vt] d->gs.length<=5000->∃g cq W1,(Builtin.append_ #[22,22] 22 #[vm,.slice (some ⟨W.heap.size,0,none⟩) 1 1]).run prog (W.alloc (.cells #[.string d.name,.int .i64 d.kind,.int .i64 d.addr,.int .u8 (d.pool:Int),vb,vr,vt] 56)).drew=.ok (.slice (some ⟨g,0,none⟩) (gs.length+1) cq) W1/\SOn w (.slice (some ⟨b0,o0,none⟩) ds.length cap) (.slice B ls.length d8) (.slice (some ⟨g,0,none⟩) (gs.length+1) cq) vk (gs++[d]) ms (W1.setCell ⟨w.heap.size+1+1,0,none⟩ (.slice (some ⟨g,0,none⟩) (gs.length+1) cq))/\W1.cell? ⟨w.heap.size+1+1,0,none⟩=some vm/\W1.frozen? ⟨w.heap.size+1+1,0,none⟩=false/\w.heap.size+1+1<W1.heap.size):=λvm vk gs ms W h d vb vr vt hd hn=>h.drew.appD hd hn;have VK:Hid (∀vm vk gs ms W,SOn w (.slice (some ⟨b0,o0,none⟩) ds.length cap) (.slice B ls.length d8) vm vk gs ms W->∀(l:Lk),ms.length<=5000->∃g cq W1,(Builtin.append_ #[23,23] 23 #[vk,.slice (some ⟨W.heap.size,0,none⟩) 1 1]).run prog (W.alloc (.cells #[.int .i64 l.a,.int .i64 l.p,.int .i64 l.b,.int .i64 l.q] 96))=.ok (.slice (some ⟨g,0,none⟩) (ms.length+1) cq) W1/\SOn w (.slice (some ⟨b0,o0,none⟩) ds.length cap) (.slice B ls.length d8) vm (.slice (some ⟨g,0,none⟩) (ms.length+1) cq) gs (ms++[l]) (W1.setCell ⟨w.heap.size+1+1,1,none⟩ (.slice (some ⟨g,0,none⟩) (ms.length+1) cq))/\W1.cell? ⟨w.heap.size+1+1,1,none⟩=some vk/\W1.frozen? ⟨w.heap.size+1+1,1,none⟩=false/\w.heap.size+1+1<W1.heap.size):=λvm vk gs ms W h l hn=>h.appL l hn;have VB:Hid (∀vm vk gs ms W (x:Int),SOn w (.slice (some ⟨b0,o0,none⟩) ds.length cap) (.slice B ls.length d8) vm vk gs ms W->Calls prog 185 #[.slice (some ⟨g,0,none⟩) f.length c,.int .i64 x] W λe w'=>e=.returned (.tuple #[.int .i64 (f.countP (·<x):Nat),.bool (f.contains x)])/\SOn w (.slice (some ⟨b0,o0,none⟩) ds.length cap) (.slice B ls.length d8) vm vk gs ms w'/\w'.heap.size=W.heap.size/\∀a,w'.cell? a=W.cell? a):=λvm vk gs ms W x h=>by
  have:=slices_BinarySearch_int g 0 f.length c f x W (Nat.le_refl _) (by omega) (λj hj=>by
   rw[Nat.zero_add,List.getD_eq_getElem?_getD,List.getElem?_eq_getElem hj];exact(VI.out _ _ _ _ _ h).2 j _ (List.getElem?_eq_getElem hj)) (by rw[List.take_length];exact hsr.out)
  rw[List.take_length]at this;refine this.mono λe w' ⟨h1,q,h2⟩=>⟨h1,?_,?_,λa=>?_⟩
  ·rw[h2];exact h.below (below_drewN W q)
  ·rw[h2];rfl
  ·rw[h2];rfl
 have VC:Hid (∀A1 c1 A2 c2 W,SOn w (.slice (some ⟨b0,o0,none⟩) ds.length cap) (.slice B ls.length d8) (.slice A1 (e8 ds f).length c1) (.slice A2 (e9 ls f).length c2) (e8 ds f) (e9 ls f) W->Calls prog 186 #[.agg #[.slice A1 (e8 ds f).length c1,.slice A2 (e9 ls f).length c2]] W λe w'=>∃A3 c3 A4 c4,e=.returned (.agg #[.slice A3 (e8 ds f).length c3,.slice A4 (e9 ls f).length c4])/\(w.heap.size+1<w'.heap.size/\w'.cell? ⟨w.heap.size+1,0,none⟩=some (.slice none 0 0)/\w'.cell? ⟨w.heap.size+1,1,none⟩=some (.slice none 0 0)/\w'.frozen? ⟨w.heap.size+1,0,none⟩=false/\w'.frozen? ⟨w.heap.size+1,1,none⟩=false)/\Hid (CopyDeep w (e8 ds f) (e9 ls f) e ((w'.setCell ⟨w.heap.size+1,0,none⟩ (.slice A3 (e8 ds f).length c3)).setCell ⟨w.heap.size+1,1,none⟩ (.slice A4 (e9 ls f).length c4)))):=λA1 c1 A2 c2 W h =>
  (tl A1 A2 c1 c2 (e8 ds f) (e9 ls f) W h.devs h.links hS).mono λe w' hc=>by
    have hlt:=h.bR.lt;obtain⟨A3,c3,A4,c4,he,-,-,hb,-⟩:=id hc;obtain⟨q1,A',c',C',c'',e2,q2,q3,q4,q5⟩:=hc.store (B:=w.heap.size) (k:=w.heap.size+1) (x:=.slice A3 (e8 ds f).length c3) (y:=.slice A4 (e9 ls f).length c4) (by omega) hlt;have r1:Bk w' _ _ _:=Bk.keep hb h.bR;refine⟨A3,c3,A4,c4,he,⟨r1.lt,r1.two.1,r1.two.2,r1.fz 0,r1.fz 1⟩,⟨A',c',C',c'',e2,?_,?_,h.be.trans q1,q4.lo h.be.size,q5.lo h.be.size⟩⟩
    ·simpa[World.setCell]using q2
    ·simpa[World.setCell]using q3
 have VS:Hid (∀vm vk gs ms W,SOn w (.slice (some ⟨b0,o0,none⟩) ds.length cap) (.slice B ls.length d8) vm vk gs ms W->∃A1 c1 A2 c2,vm=.slice A1 gs.length c1/\vk=.slice A2 ms.length c2):=λvm vk gs ms W h=>by
  obtain⟨cs,h1,_⟩:=h.rd;obtain⟨A1,c1,e1⟩:=ew h1;obtain⟨A2,c2,e2⟩:=ew h.rl;exact⟨A1,c1,A2,c2,e1,e2⟩
 have VQ:Hid (∀vm vk gs ms W,SOn w (.slice (some ⟨b0,o0,none⟩) ds.length cap) (.slice B ls.length d8) vm vk gs ms W->∀j l,ls[j]?=some l->∃b o,B=some ⟨b,o,none⟩/\b<W.heap.size/\W.cell? ⟨b,o+j*4,none⟩=some (.int .i64 l.a)/\W.cell? ⟨b,o+j*4+1,none⟩=some (.int .i64 l.p)/\W.cell? ⟨b,o+j*4+2,none⟩=some (.int .i64 l.b)/\W.cell? ⟨b,o+j*4+3,none⟩=some (.int .i64 l.q)):=λvm vk gs ms W h j l hj=>by
  obtain⟨A',c',e,_,_,_,h3⟩:=hL.out.below h.be;cases e;obtain⟨b,o,ea,hl,hr⟩:=h3 (λe=>by subst e;simp at hj);obtain⟨cs,_,rfl,hc⟩:=hr j l hj;exact⟨b,o,ea,Nat.lt_of_lt_of_le hl h.be.size,hc 0 _ rfl,hc 1 _ rfl,hc 2 _ rfl,hc 3 _ rfl⟩
 generalize hV:SOn w (.slice (some ⟨b0,o0,none⟩) ds.length cap) (.slice B ls.length d8)=V at *;clear hV hD hL hI hS;go_enter func150,ntmps150;go_wp2_with fail;go_loopw[16] (λs16 wr=>∃(i:Nat) (vm:Value),s16=.int .i64 (i:Int)/\i<=f.length/\V vm (.slice none 0 0) (e8 ds (f.take i)) [] wr) (λs16 _=>f.length-(intOf s16).toNat)
 case atStart=>exact⟨0,_,rfl,by omega,V0⟩
 case round =>
  obtain⟨i,vm,rfl,hi,V1⟩:=hrel;have hgl1:=lN hok.out i;rw[List.length_take,Nat.min_eq_left hi]at hgl1;obtain⟨n1,n2,n3,n4,n5⟩:=VN.out _ _ _ _ _ V1;obtain⟨g1,gc⟩:=VI.out _ _ _ _ _ V1;by_cases hlt:i<f.length
  ·obtain⟨d,hd⟩:∃d,f[i]?=some d:=⟨_,List.getElem?_eq_getElem hlt⟩;have q5:=gc i d hd;obtain⟨d0,d1⟩:=hok.out.lt d (List.mem_of_getElem? hd);obtain⟨j,rfl⟩:∃j:Nat,d=(j:Int):=⟨d.toNat,by omega⟩;obtain⟨dv,hdv⟩:∃dv,ds[j]?=some dv:=⟨_,List.getElem?_eq_getElem (by omega)⟩;have hN:Hid (e8 ds (f.take (i+1))=e8 ds (f.take i)++[dv]):=by
    show _=_;rw[List.take_add_one,hd];exact lO _ (by simpa using hdv)
   obtain⟨hb1,vb,vr,vt,hID,c0,c1,c2,c3,c4,c5,c6⟩:=VD.out _ _ _ _ _ (VW.out _ _ _ _ _ V1) j dv hdv;obtain⟨m1,m2,m3,m4,m5⟩:=VN.out _ _ _ _ _ (VW.out _ _ _ _ _ V1);obtain⟨k1,k2,k3,k4,k5⟩:=VN.out _ _ _ _ _ (VW.out _ _ _ _ _ (VL.out _ _ _ _ _ (.cells #[.string dv.name,.int .i64 dv.kind,.int .i64 dv.addr,.int .u8 (dv.pool:Int),vb,vr,vt] 56) V1));obtain⟨g4,c4',W4,hrun,V4,y1,y2,y3⟩:=VA.out _ _ _ _ _ V1 dv vb vr vt hID.out (by omega);obtain⟨A1,e1,_,_,rfl,_⟩:=VS.out _ _ _ _ _ V1;have i1:(0:Int)<=(i:Int):=by omega
   have i2:(i:Int)<(f.length:Int):=by omega
   have j1:(0:Int)<=(j:Int):=by omega
   have j2:(j:Int)<(ds.length:Int):=by omega
   clear gc hd hdv d0 d1 hID VD VA VK VB VC VS VQ VL V0 n4 n5 n3 hgl1;go_upto_region 5 with fail
   go_region_law (refine kA (by rfl) _ _ 22 (by rfl) _ _ _ W4 (by rfl) (by rfl) hrun ?_)
   all_goals
    go_wp2_with fail;go_roundw
    case rel=>exact⟨i+1,_,by go_num,by omega,by rw[hN.out];exact V4⟩
    case measure=>simp[intOf];omega
  ·have hie:i=f.length:=by omega
   subst hie;rw[List.take_length]at V1 hgl1;have hng:¬(f.length:Int)<(f.length:Int):=by omega
   clear VD VA VI VW gc V0 n4 n5 hgl1;go_wp2_with fail;go_loopw[34] (λs34 wr=>∃(j:Nat) (vk:Value),s34=.int .i64 (j:Int)/\j<=ls.length/\V vm vk (e8 ds f) (e9 (ls.take j) f) wr) (λs34 _=>ls.length-(intOf s34).toNat)
   case atStart=>exact⟨0,_,rfl,by omega,V1⟩
   case round =>
    obtain⟨j,vk,rfl,hj,V2⟩:=hrel;obtain⟨p1,p2,p3,p4,p5⟩:=VN.out _ _ _ _ _ V2;by_cases hlt:j<ls.length
    ·obtain⟨l,hl⟩:∃l,ls[j]?=some l:=⟨_,List.getElem?_eq_getElem hlt⟩;obtain⟨b1,o1,rfl,hb1,x0,x1,x2,x3⟩:=VQ.out _ _ _ _ _ V2 j l hl;have hN:Hid (e9 (ls.take (j+1)) f=e9 (ls.take j) f++az f l):=by
      show _=_;rw[List.take_add_one,hl];simp[e9]
     have hml:(e9 (ls.take j) f).length<=j:=by
      have:=dT (f:=f) (ls.take j);rw[List.length_take]at this;omega
     have z0:=(i7 wr #[.int .i64 l.a,.int .i64 l.p,.int .i64 l.b,.int .i64 l.q] 96).four;have V3:=VL.out _ _ _ _ _ (.cells #[.int .i64 l.a,.int .i64 l.p,.int .i64 l.b,.int .i64 l.q] 96) V2;have BA:=λW=>VB.out vm vk (e8 ds f) (e9 (ls.take j) f) W l.a;have BB:=λW=>VB.out vm vk (e8 ds f) (e9 (ls.take j) f) W l.b;have hKF:Hid (az f l=if f.contains l.a then [⟨(f.countP (·<l.a):Nat),l.p,(f.countP (·<l.b):Nat),l.q⟩]else []):=rfl;generalize f.countP (·<l.a)=na at BA hKF;generalize f.contains l.a=bo at BA hKF;generalize f.countP (·<l.b)=nb at BB hKF;generalize f.contains l.b=bp at BB;have BA:Hid (∀W,_):=BA;have BB:Hid (∀W,_):=BB;have j1:(0:Int)<=(j:Int):=by omega
     have j2:(j:Int)<(ls.length:Int):=by omega
     clear hl VQ VB;go_upto_region 10 with fail;go_upto_region 11 with(go_at_call 185;refine(BA.out _ V3).mono ?_;rintro e w5⟨rfl,V5,hs5,hc5⟩)
     obtain⟨z0,z1,z2,z3,-⟩:=z0;have y0:=(hc5 ⟨wr.heap.size,0,none⟩).trans z0;have y1:=(hc5 ⟨wr.heap.size,1,none⟩).trans z1;have y2:=(hc5 ⟨wr.heap.size,2,none⟩).trans z2;have y3:=(hc5 ⟨wr.heap.size,3,none⟩).trans z3;have hs5':wr.heap.size<w5.heap.size:=by rw[hs5];simp
     clear hc5 z0 z1 z2 z3 V3 hs5 BA x0 x1 x2 x3 p1 p2 p3 p4 p5;go_upto_region 12 with(go_at_call 185;refine(BB.out _ V5).mono ?_;rintro e w6⟨rfl,V6,hs6,hc6⟩)
     have u0:=(hc6 ⟨wr.heap.size,0,none⟩).trans y0;have u1:=(hc6 ⟨wr.heap.size,1,none⟩).trans y1;have u2:=(hc6 ⟨wr.heap.size,2,none⟩).trans y2;have u3:=(hc6 ⟨wr.heap.size,3,none⟩).trans y3;have hs6':wr.heap.size<w6.heap.size:=by rw[hs6];exact hs5'
     obtain⟨p1,p2,p3,p4,p5⟩:=VN.out _ _ _ _ _ V6;clear hc6 hs6 BB y0 y1 y2 y3 hs5' V5;cases bo with
     | false =>
       clear VK;go_wp2_with fail;go_roundw
       case rel=>exact⟨j+1,vk,by go_num,by omega,by rw[hN.out,hKF.out];simpa using V6⟩
       case measure=>simp[intOf];omega
     | true =>
       obtain⟨g7,c7,W7,hrun,V7,r1,r2,r3⟩:=VK.out _ _ _ _ _ V6 ⟨(na:Int),l.p,(nb:Int),l.q⟩ (by omega);have hN2:Hid (e9 (ls.take (j+1)) f=e9 (ls.take j) f++[⟨(na:Int),l.p,(nb:Int),l.q⟩]):=by
        show _=_;rw[hN.out,hKF.out];rfl
       clear VK hN hKF hml;go_upto_region 13 with fail
       iterate 31 go_step
       refine gQ rfl _ _ 23 rfl _ _ _ _ rfl rfl hrun ?_;simp only[Act.put,List.setIfInBounds_toArray,List.set_cons_zero,List.set_cons_succ];go_wp2_with fail;go_roundw
       case rel=>exact⟨j+1,_,by go_num,by omega,by rw[hN2.out];exact V7⟩
       case measure=>simp[intOf];omega
    ·have hje:j=ls.length:=by omega
     subst hje;rw[List.take_length]at V2;obtain⟨A1,e1,A2,e2,rfl,rfl⟩:=VS.out _ _ _ _ _ V2;have CP:=VC.out _ _ _ _ _ V2;have hng2:¬(ls.length:Int)<(ls.length:Int):=by omega
     clear VC VS VQ VB VK VN VL V2 V1;go_upto_region 15 with fail;go_wp2_with fail;refine CP.mono ?_;rintro e w8⟨A3,c3,A4,c4,rfl,⟨t1,t2,t3,t4,t5⟩,hO⟩;clear CP;have s1:((w8.setCell ⟨w.heap.size+1,0,none⟩ (.slice A3 (e8 ds f).length c3)).setCell ⟨w.heap.size+1,1,none⟩ (.slice A4 (e9 ls f).length c4)).cell? ⟨w.heap.size+1,1,none⟩=some (.slice A4 (e9 ls f).length c4):=cj ((i9 (by omega)).trans t3);have s0:((w8.setCell ⟨w.heap.size+1,0,none⟩ (.slice A3 (e8 ds f).length c3)).setCell ⟨w.heap.size+1,1,none⟩ (.slice A4 (e9 ls f).length c4)).cell? ⟨w.heap.size+1,0,none⟩=some (.slice A3 (e8 ds f).length c3):=(i9 (by omega)).trans (cj t2);go_wp2_with fail;refine bodyPost_ret (v:=.agg #[.slice A3 (e8 ds f).length c3,.slice A4 (e9 ls f).length c4]) (by simp[results,results150,go_sem,s0,s1]) rfl hO.out
end Go.Proofs.YtppbfikimalojaaGreat
namespace Go.Proofs.YtppbfikimalojaaGreat
open Tryz
open Go.RowKit
theorem tr(nm s:ByteArray)(k ad:Int)(pl:Nat)(vb vr vt:Value)(n0:Nat)(w:World)(hn:n0<w.heap.size)(hc:w.cell? ⟨n0,0,none⟩=some (.string s)) :
  Calls prog 148 #[F9 nm k ad pl vb vr vt,.pointer (some ⟨n0,0,none⟩)] w λe w'=>e=.returned (.bool ((k == 1)&&(nm.toList == s.toList)))/\Below w.heap.size w w':=by
 have D0:=Below.alN (Below.refl w.heap.size w) (.cells #[.string nm,.int .i64 k,.int .i64 ad,.int .u8 (pl:Int),vb,vr,vt] 56);have c1:(w.alloc (.cells #[.string nm,.int .i64 k,.int .i64 ad,.int .u8 (pl:Int),vb,vr,vt] 56)).cell? ⟨n0,0,none⟩=some (.string s):=(D0.cell (p:=⟨n0,0,none⟩) hn).trans hc;by_cases hk:k=1
 ·subst hk;go_enter func148,ntmps148;go_wp2_with fail;go_ret;exact⟨by simp,D0⟩
 ·have hk2:(k == 1)=false:=by simpa using hk
  go_enter func148,ntmps148;go_wp2_with fail;go_ret;exact⟨by simp[hk2],D0⟩
theorem tu(A:Option Addr)(n cap:Nat)(ds:List Dv)(s:ByteArray)(n0:Nat)(w:World)(hD:Hid (Devs w.heap.size w (.slice A n cap) ds))(hn0:n0<w.heap.size)(hc0:Hid (w.cell? ⟨n0,0,none⟩=some (.string s))) :
  Calls prog 107 #[.slice A n cap,.func (.func 148) #[] #[.pointer (some ⟨n0,0,none⟩)]] w λe w'=>e=.returned (.int .i64 (hostFrom ds s.toList 0))/\Below w.heap.size w w':=by
 obtain⟨rfl,hc,hm⟩:=hD.out.len;unfold maxLen at hm;generalize hres:hostFrom ds s.toList 0=res;have HR:Hid (hostFrom ds s.toList 0=res):=hres;clear hres;go_enter func107,ntmps107;go_wp2_with fail;go_loopw[8] (λi wr=>∃k:Nat,i=.int .i64 (k:Int)/\k<=ds.length/\Below w.heap.size w wr/\Hid (hostFrom ds s.toList k=res)) (λi _=>ds.length-(intOf i).toNat)
 case atStart=>exact⟨0,rfl,by omega,Below.refl _ _,HR⟩
 case round =>
  obtain⟨k,rfl,hk,D1,hno⟩:=hrel;by_cases hlt:k<ds.length
  ·obtain⟨d,hxk⟩:∃d,ds[k]?=some d:=⟨_,List.getElem?_eq_getElem hlt⟩;obtain⟨b,o,vb,vr,vt,rfl,hb,_,_,_,c0,c1,c2,c3,c4,c5,c6⟩:=(hD.out.below D1).at hxk;have PR:Hid (Calls prog 148 #[F9 d.name d.kind d.addr d.pool vb vr vt,.pointer (some ⟨n0,0,none⟩)] wr λe w'=>e=.returned (.bool ((d.kind == 1)&&(d.name.toList == s.toList)))/\Below wr.heap.size wr w'):=tr d.name s d.kind d.addr d.pool vb vr vt n0 wr (Nat.lt_of_lt_of_le hn0 D1.size) ((D1.cell (p:=⟨n0,0,none⟩) hn0).trans hc0.out);have HF:Hid (hostFrom ds s.toList k=if(d.kind == 1)&&(d.name.toList == s.toList)then(k:Int)else hostFrom ds s.toList (k+1)):=fQ hxk;have k1:(0:Int)<=(k:Int):=by omega
   have k2:(k:Int)<(ds.length:Int):=by omega
   clear hxk hD HR hc0;generalize ((d.kind == 1)&&(d.name.toList == s.toList))=x at *;generalize d.name=nm at *;generalize d.kind=kd at *;generalize d.addr=ad at *;generalize d.pool=pl at *;cases x
   ·have HV:Hid (hostFrom ds s.toList (k+1)=res):=by
     show _=_;rw[<- hno.out,HF.out];simp
    clear HF hno;go_wp2_with fail;refine PR.out.mono ?_;rintro e w2⟨rfl,hb2⟩;have D2:=f7 hb2 D1;clear hb2 D1 c0 c1 c2 c3 c4 c5 c6 PR;go_wp2_with fail;go_roundw
    case rel=>exact⟨k+1,by go_num,by omega,D2,HV⟩
    case measure=>simp[intOf];omega
   ·have HV:Hid (res=(k:Int)):=by
     show _=_;rw[<- hno.out,HF.out];simp
    clear HF hno;go_wp2_with fail;refine PR.out.mono ?_;rintro e w2⟨rfl,hb2⟩;have D2:=f7 hb2 D1;clear hb2 D1 c0 c1 c2 c3 c4 c5 c6 PR;go_wp2_with fail;go_ret;exact⟨by rw[HV.out];rfl,D2⟩
  ·have HV:Hid (res=-1):=by
    show _=_;rw[<- hno.out,de (by omega)]
   go_wp2_with fail;go_ret;exact⟨by rw[HV.out];rfl,D1⟩
end Go.Proofs.YtppbfikimalojaaGreat
namespace Go.Proofs.YtppbfikimalojaaGreat
open Tryz
open Go.RowKit Go.Maps
abbrev bV(x y z:Value)(h q:Int):Value:=.agg #[x,y,z,.int .i64 h,.int .i64 q]
abbrev nilS:Value:=.slice none 0 0
structure CpAt(lo:Nat)(W:World)(A:Option Addr)(c:Nat)(B:Option Addr)(c':Nat)(ds:List Dv)(ls:List Lk):Prop where
 devs:Devs W.heap.size W (.slice A ds.length c) ds
 links:Links W.heap.size W (.slice B ls.length c') ls
 deep:Deep lo W A ds.length
 hi:Hi lo (.slice B ls.length c')
section
variable {lo lo' k j c c':Nat}{W W':World}{A B:Option Addr}{ds:List Dv}{ls:List Lk}{u:Value}
theorem gU(W:World)(a:Addr)(u:Value):(W.setCell a u).heap.size=W.heap.size:=by simp[World.setCell]
theorem CpAt.low(h:CpAt lo W A c B c' ds ls)(hk:k<lo):CpAt lo (W.setCell ⟨k,j,none⟩ u) A c B c' ds ls :=
 ⟨by rw[gU];exact Devs.low h.devs h.deep hk,by rw[gU];exact SlAt.setB h.links (h.hi.b hk),λhn=>by
  obtain⟨g,e,hg,hp⟩:=h.deep hn;exact⟨g,e,hg,hp.other (by omega)⟩,h.hi⟩
theorem CpAt.below(h:CpAt lo W A c B c' ds ls)(hb:Below W.heap.size W W'):CpAt lo W' A c B c' ds ls :=
 ⟨(h.devs.below hb).mono hb.size,(h.links.below hb).mono hb.size,h.deep.below h.devs hb,h.hi⟩
theorem CpAt.down(h:CpAt lo W A c B c' ds ls)(hl:lo'<=lo):CpAt lo' W A c B c' ds ls:=⟨h.devs,h.links,h.deep.lo hl,h.hi.lo hl⟩
end
abbrev set5(W:World)(k:Nat)(a b c d e:Value):World:=((((W.setCell ⟨k,0,none⟩ a).setCell ⟨k,1,none⟩ b).setCell ⟨k,2,none⟩ c).setCell ⟨k,3,none⟩ d).setCell ⟨k,4,none⟩ e
section
variable {W w0:World}{k B:Nat}{t:TypeId}{x0 x1 x2 x3 x4 a b c d e:Value}
theorem Bk.set5(h:Bk W k #[x0,x1,x2,x3,x4] t):Bk (set5 W k a b c d e) k #[a,b,c,d,e] t:=by
 have:=((((h.setS (j:=0) a).setS (j:=1) b).setS (j:=2) c).setS (j:=3) d).setS (j:=4) e;simpa using this
theorem r9{j:Nat}{u:Value}(h:Below B w0 W)(hk:B<=k):Below B w0 (W.setCell ⟨k,j,none⟩ u) :=
 ⟨h.os,h.tape,h.output,by rw[gU];exact h.size,λi hi=>(Below.heap_setCell W ⟨k,j,none⟩ u i (show i≠k by omega)).trans (h.block i hi)⟩
theorem gV(h:Below B w0 W)(hk:B<=k):Below B w0 (set5 W k a b c d e):=r9 (r9 (r9 (r9 (r9 h hk) hk) hk) hk) hk
end
def tx(w:World)(ds:List Dv)(ls:List Lk)(s:List UInt8)(e:Ending)(w':World):Prop :=
 Below w.heap.size w w'/\((netV ds ls≠0/\e=.returned (.tuple #[bV nilS nilS nilS 0 0,.int .i64 (netV ds ls)])) \/
  (netV ds ls=0/\hostFrom ds s 0<0/\e=.returned (.tuple #[bV nilS nilS nilS 0 0,.int .i64 4])) \/
  (netV ds ls=0/\∃k:Nat,hostFrom ds s 0=(k:Int)/\∃A c B c' g q h,e=.returned (.tuple #[bV (.slice A (e8 ds (wholeF ds ls k)).length c) (.slice B (e9 ls (wholeF ds ls k)).length c') (.slice (some ⟨g,0,none⟩) (wholeF ds ls k).length q) h 0,.int .i64 0]) /\
    CpAt w.heap.size w' A c B c' (e8 ds (wholeF ds ls k)) (e9 ls (wholeF ds ls k))))
theorem kB{ds:List Dv}:∀(m k:Nat),ds.length-k<=m->m9 ds k=0->∀j d,k<=j->ds[j]?=some d->C8 ds j d=0
 | 0,k,h,_,j,d,hj,hd=>by
   have:=(List.getElem?_eq_some_iff.1 hd).1;omega
 | m+1,k,h,h0,j,d,hj,hd=>by
   have hjl:=(List.getElem?_eq_some_iff.1 hd).1;have hk:k<ds.length:=by omega
   rw[cX (List.getElem?_eq_getElem hk)]at h0
   split at h0
   ·rename_i hw
    by_cases e:j=k
    ·subst e;rw[List.getElem?_eq_getElem hk,Option.some.injEq]at hd;rw[<- hd];exact hw
    ·exact kB m (k+1) (by omega) h0 j d (by omega) hd
   ·rename_i hw
    exact absurd h0 hw
theorem gX{ds:List Dv}{ls:List Lk}(h:netV ds ls=0):∀d∈ds,devC d=0:=by
 intro d hd;obtain⟨k,hk,e⟩:=List.mem_iff_getElem.1 hd;unfold netV at h
 split at h
 ·simp at h
 ·split at h
  ·rename_i hz
   have:=kB ds.length 0 (by omega) hz k d (Nat.zero_le _) (by rw[List.getElem?_eq_getElem hk,e]);unfold C8 at this
   split at this
   ·split at this
    ·simp at this
    ·exact this
   ·simp at this
  ·rename_i hz
   exact absurd h hz
theorem gY{d:Dv}(h:devC d=0):d.backs.length<=3/\d.rules.length<=8/\d.routes.length<=8:=by
 unfold devC P9 at h
 split at h
 ·simp at h
 split at h
 ·simp at h
 rename_i h1 h2
 split at h
 ·simp at h
 rename_i h3
 split at h
 ·simp at h
 split at h
 ·simp at h
 split at h
 ·simp at h
 split at h
 ·simp at h
 rename_i h8
 have hr:d.routes.length<=8:=by
  unfold checkV at h
  split at h
  ·simp at h
  ·rename_i h9
   simpa using h9
 exact⟨by omega,by omega,hr⟩
theorem tz{ds:List Dv}{ls:List Lk}{f:List Int}(h:netV ds ls=0)(hf:FOk ds f):Small (e8 ds f) (e9 ls f):=by
 obtain⟨h1,h2,_⟩:=l7 h;have hl:=dT (f:=f) ls;have hd:=fP f hf.lt;have hfl:=hf.len;exact⟨by omega,by omega,λd hd=>by have:=gY (gX h d (iq d hd));omega,λd hd=>by have:=gY (gX h d (iq d hd));omega,λd hd=>by have:=gY (gX h d (iq d hd));omega⟩
theorem kC{ds:List Dv}{ls:List Lk}:∀(n i:Nat) (f:List Int),f.length<=(aroundF ds ls n i f).length
 | 0,_,_=>Nat.le_refl _
 | n+1,i,f=>by
   unfold aroundF
   split
   ·exact Nat.le_refl _
   ·exact Nat.le_trans (ip _ _ f) (kC n _ _)
theorem gZ(ds:List Dv)(ls:List Lk)(s:Int):(wholeF ds ls s).length≠0:=by
 rw[wholeF,List.length_mergeSort];have:=kC (ds:=ds) (ls:=ls) 10 0 [s];simp at this;omega
theorem tA(A:Option Addr)(n cap:Nat)(bs:List Int)(x:Int)(b9:Nat)(w:World)(hB:Hid (SlAt b9 w 1 IsI (.slice A n cap) bs)):Calls prog 26 #[.slice A n cap,.int .i64 x] w λe w'=>∃j:Int,e=.returned (.int .i64 j)/\w'=w:=(jI A n cap bs x b9 w hB).mono λ_ _ ⟨j,h1,_,h2⟩=>⟨j,h1,h2⟩
theorem Hid.of{p:Prop}(h:p):Hid p:=h
theorem tB(A B:Option Addr)(cap d8:Nat)(ds:List Dv)(ls:List Lk)(s:ByteArray)(w:World)(hD:Hid (Devs w.heap.size w (.slice A ds.length cap) ds))(hL:Hid (Links w.heap.size w (.slice B ls.length d8) ls)) :
  Calls prog 105 #[.agg #[.slice A ds.length cap,.slice B ls.length d8],.string s] w (tx w ds ls s.toList):=by
 have D0:Below w.heap.size w (((w.alloc (.cells #[.slice A ds.length cap,.slice B ls.length d8] 25)).alloc (.cells #[.string s] 9)).alloc (.cells #[nilS,nilS,nilS,.int .i64 0,.int .i64 0] 184)):=Below.alloc' (Below.alloc' (Below.alloc' (Below.refl _ _) _) _) _;have N0:=((i7 w #[.slice A ds.length cap,.slice B ls.length d8] 25).alloc (.cells #[.string s] 9)).alloc (.cells #[nilS,nilS,nilS,.int .i64 0,.int .i64 0] 184);have S0:=(E0 (w.alloc (.cells #[.slice A ds.length cap,.slice B ls.length d8] 25)) #[.string s] 9 (w.heap.size+1) (by simp)).alloc (.cells #[nilS,nilS,nilS,.int .i64 0,.int .i64 0] 184);have P0:=E0 ((w.alloc (.cells #[.slice A ds.length cap,.slice B ls.length d8] 25)).alloc (.cells #[.string s] 9)) #[nilS,nilS,nilS,.int .i64 0,.int .i64 0] 184 (w.heap.size+1+1) (by simp);have CK:Hid (∀W,Below w.heap.size w W->Calls prog 29 #[.agg #[.slice A ds.length cap,.slice B ls.length d8]] W λe w'=>e=.returned (.int .i64 (netV ds ls))/\Below W.heap.size W w'):=λW h=>eZ _ _ ds ls W ((hD.out.below h).mono h.size) ((hL.out.below h).mono h.size);have IX:Hid (∀W,Below w.heap.size w W->Bk W (w.heap.size+1) #[.string s] 9->Calls prog 107 #[.slice A ds.length cap,.func (.func 148) #[] #[.pointer (some ⟨w.heap.size+1,0,none⟩)]] W λe w'=>e=.returned (.int .i64 (hostFrom ds s.toList 0))/\Below W.heap.size W w'):=λW h hb=>tu A ds.length cap ds s (w.heap.size+1) W ((hD.out.below h).mono h.size) hb.lt hb.one.1;have AR:Hid (∀(k:Nat) W,k<ds.length->netV ds ls=0->Below w.heap.size w W->Calls prog 149 #[.agg #[.slice A ds.length cap,.slice B ls.length d8],.int .i64 (k:Int)] W λe w'=>∃g c,e=.returned (.slice (some ⟨g,0,none⟩) (wholeF ds ls k).length c)/\Hid (w'.ownsRow W.heap.size 3 1 (.slice (some ⟨g,0,none⟩) (wholeF ds ls k).length c) (wholeF ds ls k).length (p8 (wholeF ds ls k)))/\Below W.heap.size W w'):=λk W hk hz h=>wY A B cap d8 ds ls k W hz hk ((hD.out.below h).mono h.size) ((hL.out.below h).mono h.size);have ON:Hid (∀(k g c B0:Nat) W,k<ds.length->netV ds ls=0->Below w.heap.size w W->W.ownsRow B0 3 1 (.slice (some ⟨g,0,none⟩) (wholeF ds ls k).length c) (wholeF ds ls k).length (p8 (wholeF ds ls k))->Calls prog 150 #[.agg #[.slice A ds.length cap,.slice B ls.length d8],.slice (some ⟨g,0,none⟩) (wholeF ds ls k).length c] W (CopyDeep W (e8 ds (wholeF ds ls k)) (e9 ls (wholeF ds ls k)))):=λk g c B0 W hk hz h hr=>tp A B cap d8 ds ls g c B0 _ W hz (FOk.whole hz hk) (dS _) (gZ _ _ _) ((hD.out.below h).mono h.size) ((hL.out.below h).mono h.size) hr (tz hz (FOk.whole hz hk));clear hD hL;go_enter func105,ntmps105;go_wp2_with fail;refine(CK.out _ D0).mono ?_;rintro e w1⟨rfl,hb1⟩;have D1:=g8 hb1 D0;have N1:=Bk.keep hb1 N0;have S1:=Bk.keep hb1 S0;have P1:=Bk.keep hb1 P0;clear hb1 D0 N0 S0 P0 CK;obtain⟨n0,n1⟩:=N1.two;have hlt1:=P1.lt;have p0:=P1.at 0;have p1:=P1.at 1;have p2:=P1.at 2;have p3:=P1.at 3;have p4:=P1.at 4;have f0:=P1.fz 0;have f1:=P1.fz 1;have f2:=P1.fz 2;have f3:=P1.fz 3;have f4:=P1.fz 4;by_cases hz:netV ds ls=0
 ·rw[hz];go_wp2_with fail;refine(IX.out _ D1 S1).mono ?_;rintro e w2⟨rfl,hb2⟩;have D2:=g8 hb2 D1;have N2:=Bk.keep hb2 N1;have P2:=Bk.keep hb2 P1;clear hb2 D1 N1 S1 P1 IX n0 n1 p0 p1 p2 p3 p4 f0 f1 f2 f3 f4 hlt1;obtain⟨n0,n1⟩:=N2.two;have hlt1:=P2.lt;rcases fR ds s.toList ds.length 0 (by omega)with hneg|⟨k,hk,hkl⟩
  ·have p0:=P2.at 0;have p1:=P2.at 1;have p2:=P2.at 2;have p3:=P2.at 3;have p4:=P2.at 4;have f0:=P2.fz 0;have f1:=P2.fz 1;have f2:=P2.fz 2;have f3:=P2.fz 3;have f4:=P2.fz 4;have Q:=Hid.of (P2.set5 (a:=nilS) (b:=nilS) (c:=nilS) (d:=.int .i64 0) (e:=.int .i64 0));have D3:=Hid.of (gV (k:=w.heap.size+1+1) (a:=nilS) (b:=nilS) (c:=nilS) (d:=.int .i64 0) (e:=.int .i64 0) D2 (by omega));clear AR ON;go_wp2_with fail;have s0:=Q.out.at 0;have s1:=Q.out.at 1;have s2:=Q.out.at 2;have s3:=Q.out.at 3;have s4:=Q.out.at 4;refine bodyPost_ret (v:=.tuple #[bV nilS nilS nilS 0 0,.int .i64 4]) (by simp[results,results105,go_sem,s0,s1,s2,s3,s4]) rfl ⟨D3.out,Or.inr (Or.inl ⟨hz,hneg,rfl⟩)⟩
  ·rw[hk];have hWl:=gZ ds ls (k:Int);go_wp2_with fail;refine(AR.out k _ hkl hz D2).mono ?_;rintro e w3⟨g,c,rfl,R3,hb3⟩;have D3:=g8 hb3 D2;have N3:=Bk.keep hb3 N2;have P3:=Bk.keep hb3 P2;have IX3:Hid (Calls prog 26 #[.slice (some ⟨g,0,none⟩) (wholeF ds ls k).length c,.int .i64 (k:Int)] w3 λe w'=>∃j:Int,e=.returned (.int .i64 j)/\w'=w3):=tA _ _ _ _ _ _ w3 (dk R3.out);clear AR hb3 D2 N2 P2 n0 n1 hlt1;go_wp2_with fail;refine IX3.out.mono ?_;rintro e w4⟨j,rfl,rfl⟩;go_wp2_with fail;have hbA:Below w4.heap.size w4 (w4.alloc (.cells #[.int .i64 j,.int .i64 0] 27)):=Below.alloc' (Below.refl _ _) _;have D4:=g8 hbA D3;have N4:=Bk.keep hbA N3;have P4:=Bk.keep hbA P3;have T4:=i7 w4 #[.int .i64 j,.int .i64 0] 27;have R4:=aB R3.out hbA;clear hbA IX3 D3 N3 P3 R3;generalize hW5:w4.alloc (.cells #[.int .i64 j,.int .i64 0] 27)=w5 at *;generalize w4.heap.size=T at *;generalize hdd:e8 ds (wholeF ds ls (k:Int))=dd at *;generalize hll:e9 ls (wholeF ds ls (k:Int))=ll at *;have ON2:Hid (∀W,W.heap=w5.heap->W.os=w5.os->W.tape=w5.tape->W.output=w5.output->Calls prog 150 #[.agg #[.slice A ds.length cap,.slice B ls.length d8],.slice (some ⟨g,0,none⟩) (wholeF ds ls k).length c] W λe w'=>∃A1 c1 B1 c1',e=.returned (.agg #[.slice A1 dd.length c1,.slice B1 ll.length c1'])/\Hid (Below w.heap.size w w'/\CpAt w5.heap.size w' A1 c1 B1 c1' dd ll)/\Bk w' (w.heap.size+1+1) #[nilS,nilS,nilS,.int .i64 0,.int .i64 0] 184/\Bk w' T #[.int .i64 j,.int .i64 0] 27):=λW h1 h2 h3 h4=>by
    have hb:Below w5.heap.size w5 W:=⟨h2,h3,h4,by rw[h1];exact Nat.le_refl _,λi _=>by rw[h1]⟩;have hs:W.heap.size=w5.heap.size:=by rw[h1]
    have D5:=g8 hb D4;refine(ON.out k g c _ W hkl hz D5 (aB R4 hb)).mono λe w' h=>?_;rw[hdd,hll]at h;obtain⟨A1,c1,B1,c1',he,q1,q2,q3,q4,q5⟩:=h;rw[hs]at q4 q5;have hb':Below w5.heap.size w5 w':=g8 q3 hb;exact⟨A1,c1,B1,c1',he,⟨g8 hb' D4,⟨q1,q2,q4,q5⟩⟩,Bk.keep hb' P4,Bk.keep hb' T4⟩
   obtain⟨n0,n1⟩:=N4.two;obtain⟨t0,t1⟩:=T4.two;have hlt5:=P4.lt;have hltT:=T4.lt;clear ON D4 R4 hW5
   go_region_with (go_at_call 150;refine(ON2.out w5.drew rfl rfl rfl rfl).mono ?_;rintro e w6⟨A1,c1,B1,c1',rfl,hO,P6,T6⟩;obtain⟨u0,u1⟩:=T6.two;have hlt6:=T6.lt;have hlp6:=P6.lt;have p0:=P6.at 0;have p1:=P6.at 1;have p2:=P6.at 2;have p3:=P6.at 3;have p4:=P6.at 4;have f0:=P6.fz 0;have f1:=P6.fz 1;have f2:=P6.fz 2;have f3:=P6.fz 3;have f4:=P6.fz 4)
   all_goals
    go_wp2_with fail;have Q:=P6.set5 (a:=.slice A1 dd.length c1) (b:=.slice B1 ll.length c1') (c:=.slice (some ⟨g,0,none⟩) (wholeF ds ls k).length c) (d:=.int .i64 j) (e:=.int .i64 0);have s0:=Q.at 0;have s1:=Q.at 1;have s2:=Q.at 2;have s3:=Q.at 3;have s4:=Q.at 4;refine bodyPost_ret (v:=.tuple #[bV (.slice A1 dd.length c1) (.slice B1 ll.length c1') (.slice (some ⟨g,0,none⟩) (wholeF ds ls k).length c) j 0,.int .i64 0]) (by simp[results,results105,go_sem,s0,s1,s2,s3,s4]) rfl ⟨gV hO.out.1 (by omega),Or.inr (Or.inr ⟨hz,k,hk,A1,c1,B1,c1',g,c,j,?_,?_⟩)⟩
    ·rw[hdd,hll]
    ·rw[hdd,hll];exact(((((hO.out.2.low hlt5).low hlt5).low hlt5).low hlt5).low hlt5).down (by omega)
 ·have Q:=Hid.of (P1.set5 (a:=nilS) (b:=nilS) (c:=nilS) (d:=.int .i64 0) (e:=.int .i64 0));have D3:=Hid.of (gV (k:=w.heap.size+1+1) (a:=nilS) (b:=nilS) (c:=nilS) (d:=.int .i64 0) (e:=.int .i64 0) D1 (by omega));clear IX AR ON;go_wp2_with fail;have s0:=Q.out.at 0;have s1:=Q.out.at 1;have s2:=Q.out.at 2;have s3:=Q.out.at 3;have s4:=Q.out.at 4;refine bodyPost_ret (v:=.tuple #[bV nilS nilS nilS 0 0,.int .i64 (netV ds ls)]) (by simp[results,results105,go_sem,s0,s1,s2,s3,s4]) rfl ⟨D3.out,Or.inl ⟨hz,rfl⟩⟩
end Go.Proofs.YtppbfikimalojaaGreat
namespace Go.Proofs.YtppbfikimalojaaGreat
open Tryz
open Go.RowKit
theorem tC(A B:Option Addr)(cap d8:Nat)(ds:List Dv)(ls:List Lk)(s:ByteArray)(w:World)(hD:Hid (Devs w.heap.size w (.slice A ds.length cap) ds)) :
  Calls prog 24 #[.agg #[.slice A ds.length cap,.slice B ls.length d8],.string s] w λe w'=>e=.returned (.int .i64 (hostFrom ds s.toList 0))/\Below w.heap.size w w':=by
 have D0:Below w.heap.size w (w.alloc (.cells #[.slice A ds.length cap,.slice B ls.length d8] 25)):=Below.alloc' (Below.refl _ _) _;have N0:=i7 w #[.slice A ds.length cap,.slice B ls.length d8] 25;obtain⟨V,hV⟩:∃V:World->Prop,V=λW=>Below w.heap.size w W/\Bk W w.heap.size #[.slice A ds.length cap,.slice B ls.length d8] 25:=⟨_,rfl⟩;have V0:V (w.alloc (.cells #[.slice A ds.length cap,.slice B ls.length d8] 25)):=by rw[hV];exact⟨D0,N0⟩
 have VC:Hid (∀{W:World},V W->W.cell? ⟨w.heap.size,0,none⟩=some (.slice A ds.length cap)):=λ{W} h=>by
  rw[hV]at h;exact h.2.at 0
 have DV:Hid (∀{k:Nat} {W:World},k<ds.length->V W->∃(b o:Nat) (d:Dv),A=some ⟨b,o,none⟩/\W.cell? ⟨b,o+k*7,none⟩=some (.string d.name)/\W.cell? ⟨b,o+k*7+1,none⟩=some (.int .i64 d.kind)/\Hid (ds[k]?=some d)):=λ{k W} hk' h=>by
  rw[hV]at h;have hd:ds[k]?=some (ds.getD k default):=by rw[List.getD_eq_getElem?_getD,List.getElem?_eq_getElem hk'];rfl
  obtain⟨b,o,vb,vr,vt,ea,hbb,s1,s2,s3,c0,c1,c2,c3,c4,c5,c6⟩:=hD.out.at hd;exact⟨b,o,ds.getD k default,ea,(h.1.cell (p:=⟨b,o+k*7,none⟩) hbb).trans c0,(h.1.cell (p:=⟨b,o+k*7+1,none⟩) hbb).trans c1,hd⟩
 have FIN:Hid (∀{W:World} (x:Int),x=hostFrom ds s.toList 0->V W->Ending.returned (.int .i64 x)=.returned (.int .i64 (hostFrom ds s.toList 0))/\Below w.heap.size w W):=λ{W} x hx h=>by
  rw[hV]at h;exact⟨by rw[hx],h.1⟩
 obtain⟨_,hcap,hcm⟩:=hD.out.len;unfold maxLen at hcm;clear hV D0 N0 hD;go_enter func24,ntmps24;go_wp2_with fail;go_loopw[5] (λv5 wr=>∃k:Nat,v5=.int .i64 (k:Int)/\k<=ds.length/\V wr/\Hid (hostFrom ds s.toList k=hostFrom ds s.toList 0)) (λv5 _=>ds.length-(intOf v5).toNat)
 case atStart=>exact⟨0,rfl,by omega,V0,rfl⟩
 case round =>
  clear V0;obtain⟨k,rfl,hk,V1,H1⟩:=hrel;have n0:=VC.out V1;by_cases hlt:k<ds.length
  rotate_left
  ·obtain rfl:k=ds.length:=by omega
   have FF:=FIN.out (-1) (by rw[<- H1.out,de (Nat.le_refl _)]) V1;have FF:Hid _:=FF;clear DV VC FIN H1 V1;go_wp2_with fail;go_ret;exact FF.out
  obtain⟨b,o,d,rfl,e0,e1,hd⟩:=DV.out hlt V1;have i1:(k:Int)<(ds.length:Int):=by omega
  have i0:(0:Int)<=(k:Int):=by omega
  have HS:=fQ (s:=s.toList) hd.out;obtain⟨nm,kd,ad,pl,bk,rl,rt⟩:=d;dsimp only at e0 e1 HS;by_cases hkd:kd=1
  ·subst hkd;cases hq:(nm.toList == s.toList)
   ·have H2:Hid (hostFrom ds s.toList (k+1)=hostFrom ds s.toList 0):=by
     show _=_;rw[<- H1.out,HS,hq];rfl
    clear DV VC FIN H1 HS hd;go_wp2_with fail;go_roundw
    case rel=>exact⟨k+1,by go_num,by omega,V1,H2⟩
    case measure=>simp[intOf];omega
   ·have FF:Hid _:=FIN.out (k:Int) (by rw[<- H1.out,HS,hq];rfl) V1;clear DV VC FIN H1 V1 HS hd;go_wp2_with fail;go_ret;exact FF.out
  ·have H2:Hid (hostFrom ds s.toList (k+1)=hostFrom ds s.toList 0):=by
    have t:(kd == 1)=false:=by simpa using hkd
    show _=_;rw[<- H1.out,HS,t];rfl
   have t1:decide (kd=1)=false:=by simp[hkd]
   have t2:(kd == 1)=false:=by simpa using hkd
   clear DV VC FIN H1 HS hd;go_wp2_with fail;go_roundw
   case rel=>exact⟨k+1,by go_num,by omega,V1,H2⟩
   case measure=>simp[intOf];omega
def fB(bs:List Int)(x:Int)(j:Int):Prop:=(∃n:Nat,j=(n:Int)/\bs[n]?=some x/\∀i y,i<n->bs[i]?=some y->y≠x)\/(j=-1/\x ∉ bs)
theorem kE(A:Option Addr)(n cap:Nat)(bs:List Int)(x:Int)(b9:Nat)(w:World)(hB:Hid (SlAt b9 w 1 IsI (.slice A n cap) bs)) :
  Calls prog 26 #[.slice A n cap,.int .i64 x] w λe w'=>∃j:Int,e=.returned (.int .i64 j)/\Hid (fB bs x j)/\w'=w:=by
 obtain⟨A',d8,e,_,h1,h2,_⟩:=id hB.out;cases e;unfold maxLen at h2;go_enter func26,ntmps26;go_wp2_with fail
 go_loop [8] (λi=>∃k:Nat,i=.int .i64 (k:Int)/\k<=bs.length/\Hid (∀i y,i<k->bs[i]?=some y->y≠x)) (λi=>bs.length-(intOf i).toNat)
 case atStart=>exact⟨0,rfl,by omega,λi y h=>by omega⟩
 case round =>
  obtain⟨k,rfl,hk,hno⟩:=hrel;by_cases hlt:k<bs.length
  ·obtain⟨y,hxk⟩:∃y,bs[k]?=some y:=⟨_,List.getElem?_eq_getElem hlt⟩;obtain⟨b,o,rfl,_,hcell⟩:=Ints.at hB.out hxk;have c0:=hcell k y hxk;have HX:Hid (bs[k]?=some y):=hxk;have k1:(0:Int)<=(k:Int):=by omega
   have k2:(k:Int)<(bs.length:Int):=by omega
   clear hxk hcell hB;cases hv:(y == x)
   ·have hv2:(x == y)=false:=by rw[BEq.comm];exact hv
    have HV:Hid (∀i z,i<k+1->bs[i]?=some z->z≠x):=λi z hi hz=>by
     by_cases e:i=k
     ·subst e;rw[HX.out]at hz;obtain rfl:=Option.some.inj hz;simpa using hv
     ·exact hno.out i z (by omega) hz
    clear HX hno hv;go_wp2_with fail
    go_round
    case rel=>exact⟨k+1,by go_num,by omega,HV⟩
    case measure=>simp[intOf];omega
   ·have hv2:(x == y)=true:=by rw[BEq.comm];exact hv
    have HV:Hid (fB bs x (k:Int)):=Or.inl ⟨k,rfl,by rw[HX.out,(by simpa using hv:y=x)],hno.out⟩;clear HX hno hv;go_wp2_with fail;go_ret;exact⟨_,rfl,HV,rfl⟩
  ·have HV:Hid (fB bs x (-1)):=Or.inr ⟨rfl,λhm=>by
    obtain⟨i,hi,e⟩:=List.mem_iff_getElem.1 hm;exact hno.out i x (by omega) (by rw[List.getElem?_eq_getElem hi,e]) rfl⟩
   go_wp2_with fail;go_ret;exact⟨_,rfl,HV,rfl⟩
theorem hG{bs:List Int}{x j:Int}(h:fB bs x j)(hm:x∈bs)(hr:bs.Pairwise (· <= ·))(hn:bs.Nodup):j=(bs.countP (·<x):Nat):=by
 rcases h with⟨n,rfl,hx,hq⟩|⟨_,h⟩
 ·clear hq
  congr 1
  induction bs generalizing n with
  | nil=>cases hm
  | cons b l ih =>
    obtain⟨r1,r2⟩:=List.pairwise_cons.1 hr;obtain⟨n1,n2⟩:=List.nodup_cons.1 hn;cases n with
    | zero =>
      simp only[List.getElem?_cons_zero,Option.some.injEq]at hx;subst hx;rw[List.countP_eq_zero.2 (λy hy=>?_)];rcases List.mem_cons.1 hy with rfl|hy
      ·simp
      ·have:=r1 y hy;simp;omega
    | succ n =>
      have hx':l[n]?=some x:=by simpa using hx
      have hxl:x∈l:=List.mem_of_getElem? hx';have:=r1 x hxl;have hne:b≠x:=λe=>n1 (e ▸ hxl);rw[List.countP_cons_of_pos (by simp;omega),<- ih hxl r2 n2 n hx']
 ·exact absurd hm h
end Go.Proofs.YtppbfikimalojaaGreat
namespace Go.Proofs.YtppbfikimalojaaGreat
open Tryz
open Go.RowKit Go.Maps
section
variable {w w':World}{k:Nat}{c:Array Value}{t:TypeId}
end
section
variable {b9 q a M:Nat}{w0 w:World}{ns:List Nd}{er:Int}
end
def S8:Nat->Bool:=λv=>decide (v<8)
theorem hJ{ds:List Dv}:∀(m k:Nat),ds.length-k<=m->m9 ds k=0->∀j d,k<=j->ds[j]?=some d->C8 ds j d=0
 | 0,k,h,_,j,d,hj,hd=>by
   have:=(List.getElem?_eq_some_iff.1 hd).1;omega
 | m+1,k,h,h0,j,d,hj,hd=>by
   have hjl:=(List.getElem?_eq_some_iff.1 hd).1;have hk:k<ds.length:=by omega
   rw[cX (List.getElem?_eq_getElem hk)]at h0
   split at h0
   ·rename_i hw
    by_cases e:j=k
    ·subst e;rw[List.getElem?_eq_getElem hk,Option.some.injEq]at hd;rw[<- hd];exact hw
    ·exact hJ m (k+1) (by omega) h0 j d (by omega) hd
   ·rename_i hw
    exact absurd h0 hw
theorem hZ{ds:List Dv}{ls:List Lk}(h:netV ds ls=0):∀d∈ds,devC d=0:=by
 intro d hd;obtain⟨k,hk,e⟩:=List.mem_iff_getElem.1 hd;unfold netV at h
 split at h
 ·simp at h
 ·split at h
  ·rename_i hz
   have:=hJ ds.length 0 (by omega) hz k d (Nat.zero_le _) (by rw[List.getElem?_eq_getElem hk,e]);unfold C8 at this
   split at this
   ·split at this
    ·simp at this
    ·exact this
   ·simp at this
  ·rename_i hz
   exact absurd h hz
def tD(l:Lk):List Value:=[.int .i64 l.a,.int .i64 l.p,.int .i64 l.b,.int .i64 l.q]
def tE(ls:List Lk):List Value:=ls.flatMap tD
structure FL(w:World)(vd vl:Value)(pc:Array Value)(MB:Nat)(vm:Value)(ms:List Lk)(W:World):Prop where
 be:Below w.heap.size w W
 bN:Bz W w.heap.size #[vd,vl] 25
 bP:Bz W (w.heap.size+1) pc 29
 bM:Bz W MB #[vd,vm] 25
 row:W.ownsRow w.heap.size 96 4 vm ms.length (tE ms)
 lM:w.heap.size+1<MB
section
variable {w W W':World}{vd vl vm:Value}{pc:Array Value}{MB:Nat}{ms:List Lk}
end
end Go.Proofs.YtppbfikimalojaaGreat
namespace Go.Proofs.YtppbfikimalojaaGreat
open Tryz
open Go.RowKit
abbrev m8(F:List Int)(x:Int):Nat:=F.countP (·<x)
structure PartF(ds:List Dv)(ls:List Lk)(F:List Int):Prop where
 ok:FOk ds F
 sr:F.Pairwise (· <= ·)
 cl:∀l∈ls,(l.a∈F->l.b∈F)/\(l.b∈F->l.a∈F)
theorem tF{ds:List Dv}{ls:List Lk}(hz:netV ds ls=0){k:Nat}(hk:k<ds.length):Comp ds ls (k:Int) (aroundF ds ls 10 0 [(k:Int)]):=by
 have h10:=(l7 hz).1;rw[fA];exact dM _ (λd f=>fv hz _) (λd f l hl=>by
  obtain⟨c1,c2⟩:=gP (d:=d) (f:=f) hz l hl;exact⟨λh=>Or.inl (c1 h),λh=>c2 h⟩) 10 0 _ (by omega) (FOk.one hk) (by simp) (λP hP _ x hx=>by
   rw[List.mem_singleton.1 hx];exact hP) (λj x hj=>by omega)
theorem whole_mem{ds:List Dv}{ls:List Lk}{k:Nat}{x:Int}:x∈wholeF ds ls (k:Int) ↔ x∈aroundF ds ls 10 0 [(k:Int)]:=by
 unfold wholeF;rw[List.mem_mergeSort]
theorem ia{ds:List Dv}{ls:List Lk}(hz:netV ds ls=0){k:Nat}(hk:k<ds.length):PartF ds ls (wholeF ds ls (k:Int))/\(k:Int)∈wholeF ds ls (k:Int):=by
 have C:=tF hz hk;refine⟨⟨FOk.whole hz hk,dS _,λl hl=>?_⟩,whole_mem.2 C.start⟩;rw[whole_mem,whole_mem];exact C.closed l hl
theorem kF{ds:List Dv}:∀(F:List Int),(∀x∈F,0<=x/\x<(ds.length:Int))->∀(k:Nat) (x:Int),F[k]?=some x->(e8 ds F)[k]?=ds[x.toNat]?
 | [],_,k,x,h=>by simp at h
 | y::F,hF,k,x,h=>by
   have hy:=hF y List.mem_cons_self;have e:ds[y.toNat]?=some ds[y.toNat]:=List.getElem?_eq_getElem (by omega);have e2:e8 ds (y::F)=ds[y.toNat]::e8 ds F:=by
    unfold e8;rw[List.flatMap_cons,e];rfl
   rw[e2];cases k with
   | zero =>
     obtain rfl:y=x:=by simpa using h
     rw[e];rfl
   | succ k=>exact kF F (λz hz=>hF z (List.mem_cons_of_mem _ hz)) k x (by simpa using h)
section
variable {ds:List Dv}{ls:List Lk}{F:List Int}
theorem PartF.pos(h:PartF ds ls F){k:Nat}{x:Int}(hk:F[k]?=some x):m8 F x=k:=by
 have hkl:=(List.getElem?_eq_some_iff.1 hk).1;have:(k:Int)=((m8 F x:Nat):Int):=hG (bs:=F) (x:=x) (j:=(k:Int)) (Or.inl ⟨k,rfl,hk,λi y hi hy e=>by
  subst e;have hp:=(List.pairwise_iff_getElem.1 h.ok.nd) i k (by omega) hkl hi;obtain⟨_,e1⟩:=List.getElem?_eq_some_iff.1 hk;obtain⟨_,e2⟩:=List.getElem?_eq_some_iff.1 hy;exact hp (e2.trans e1.symm)⟩) (List.mem_of_getElem? hk) h.sr h.ok.nd
 omega
theorem PartF.at(h:PartF ds ls F){x:Int}(hx:x∈F):F[m8 F x]?=some x:=by
 obtain⟨k,hk,e⟩:=List.mem_iff_getElem.1 hx;have hk':F[k]?=some x:=by rw[List.getElem?_eq_getElem hk,e]
 rw[h.pos hk'];exact hk'
theorem PartF.inj(h:PartF ds ls F){x y:Int}(hx:x∈F)(hy:y∈F)(e:m8 F x=m8 F y):x=y:=by
 have h1:=h.at hx;rw[e,h.at hy]at h1;exact(Option.some.inj h1).symm
theorem PartF.len(h:PartF ds ls F):(e8 ds F).length=F.length:=fP F h.ok.lt
theorem PartF.get(h:PartF ds ls F){k:Nat}{x:Int}(hk:F[k]?=some x):(e8 ds F)[k]?=ds[x.toNat]?:=kF F h.ok.lt k x hk
theorem PartF.dev(h:PartF ds ls F){x:Int}(hx:x∈F):(e8 ds F)[m8 F x]?=ds[x.toNat]?:=h.get (h.at hx)
theorem PartF.of(h:PartF ds ls F){k:Nat}{d:Dv}(hd:(e8 ds F)[k]?=some d):∃x:Nat,F[k]?=some (x:Int)/\ds[x]?=some d:=by
 have hk:=(List.getElem?_eq_some_iff.1 hd).1;rw[h.len]at hk;have hx:F[k]?=some F[k]:=List.getElem?_eq_getElem hk;have hb:=h.ok.lt _ (List.mem_of_getElem? hx);rw[h.get hx]at hd;exact⟨F[k].toNat,by rw[hx];congr 1;omega,hd⟩
theorem PartF.kind(h:PartF ds ls F){x:Int}(hx:x∈F):k9 (e8 ds F) (m8 F x:Int)=k9 ds x:=by
 unfold k9;rw[Int.toNat_natCast,h.dev hx]
theorem PartF.pl(h:PartF ds ls F){x:Int}(hx:x∈F)(p:Int):isPl (e8 ds F) (m8 F x:Int) p=isPl ds x p:=by
 have hb:=h.ok.lt x hx;have h1:=(List.getElem?_eq_some_iff.1 (h.at hx)).1;unfold isPl;rw[h.kind hx,h.len,decide_eq_true hb.1,decide_eq_true hb.2,decide_eq_true (by omega:(0:Int)<=(m8 F x:Int)),decide_eq_true (by omega:(m8 F x:Int)<(F.length:Int))]
theorem kG{l':Lk}(h:l'∈e9 ls F):∃l∈ls,l.a∈F/\l'=⟨(m8 F l.a:Int),l.p,(m8 F l.b:Int),l.q⟩:=by
 obtain⟨l,hl,h⟩:=List.mem_flatMap.1 h;unfold az at h
 split at h
 ·rename_i hc
  exact⟨l,hl,by simpa using hc,List.mem_singleton.1 h⟩
 ·cases h
theorem kH(h:netV ds ls=0):∀k d,ds[k]?=some d->nameOk d.name=true/\(ds.take k).any (λx=>x.name.toList == d.name.toList)=false:=by
 unfold netV at h
 split at h
 ·simp at h
 ·split at h
  ·rename_i h0
   intro k d hk;have:=hJ ds.length 0 (by omega) h0 k d (by omega) hk;unfold C8 at this
   split at this
   ·rename_i hn
    split at this
    ·simp at this
    ·rename_i hx
     exact⟨hn,by simpa using hx⟩
   ·simp at this
  ·rename_i h0
   exact absurd h h0
theorem kI(h:netV ds ls=0){i j:Nat}{d e:Dv}(hi:ds[i]?=some d)(hj:ds[j]?=some e)(hn:d.name.toList=e.name.toList):i=j:=by
 have key:∀{i j:Nat} {d e:Dv},ds[i]?=some d->ds[j]?=some e->d.name.toList=e.name.toList->¬i<j:=λ{i j d e} hi hj hn hlt=>by
  have:=List.any_eq_false.1 (kH h j e hj).2 d (List.mem_of_getElem? (i:=i) (by rw[List.getElem?_take_of_lt hlt];exact hi));simp[hn]at this
 have:=key hi hj hn;have:=key hj hi hn.symm;omega
theorem kJ:∀(m k:Nat),ds.length-k<=m->(∀j d,ds[j]?=some d->C8 ds j d=0)->m9 ds k=0
 | 0,k,h,_=>fI (by omega)
 | m+1,k,h,ha=>by
   by_cases hk:k<ds.length
   ·rw[cX (List.getElem?_eq_getElem hk),if_pos (ha k _ (List.getElem?_eq_getElem hk))];exact kJ m (k+1) (by omega) ha
   ·exact fI (by omega)
theorem kK:∀(m k:Nat),ls.length-k<=m->(∀j l,ls[j]?=some l->I8 ds ls j l=0)->o9 ds ls k=0
 | 0,k,h,_=>fK (by omega)
 | m+1,k,h,ha=>by
   by_cases hk:k<ls.length
   ·rw[fJ (List.getElem?_eq_getElem hk),if_pos (ha k _ (List.getElem?_eq_getElem hk))];exact kK m (k+1) (by omega) ha
   ·exact fK (by omega)
theorem PartF.eqv(h:PartF ds ls F){x y:Int}(hx:x∈F)(hy:y∈F):(((m8 F x:Nat):Int) ==((m8 F y:Nat):Int))=(x == y):=by
 rw[Bool.eq_iff_iff];simp only[beq_iff_eq];exact⟨λe=>h.inj hx hy (by omega),λe=>by rw[e]⟩
theorem PartF.apart(h:PartF ds ls F):∀ms:List Lk,(∀l∈ms,l∈ls)->Apart ms->Apart (e9 ms F)
 | [],_,_=>⟨by simp[e9],by simp[e9]⟩
 | l::ms,hm,hA=>by
   have ih:=h.apart ms (λm hm'=>hm m (List.mem_cons_of_mem _ hm')) hA.tail;have e:e9 (l::ms) F=az F l++e9 ms F:=rfl;have hl:=hm l List.mem_cons_self;rw[e];unfold az
   split
   ·rename_i hc
    have ha:l.a∈F:=by simpa using hc
    have hb:=(h.cl l hl).1 ha;refine⟨List.pairwise_append.2 ⟨by simp,ih.1,λx hx y hy=>?_⟩,λx hx=>?_⟩
    ·obtain rfl:=List.mem_singleton.1 hx;obtain⟨m,hm',hma,rfl⟩:=kG hy;have hmb:=(h.cl m (hm m (List.mem_cons_of_mem _ hm'))).1 hma;have:=(List.pairwise_cons.1 hA.1).1 m hm';unfold meetB at this ⊢;dsimp only;rw[h.eqv ha hma,h.eqv ha hmb,h.eqv hb hma,h.eqv hb hmb];exact this
    ·rcases List.mem_append.1 hx with hx|hx
     ·obtain rfl:=List.mem_singleton.1 hx;have:=hA.2 l List.mem_cons_self;unfold selfB at this ⊢;dsimp only;rw[h.eqv ha hb];exact this
     ·exact ih.2 x hx
   ·exact ih
theorem ib(hz:netV ds ls=0)(h:PartF ds ls F):netV (e8 ds F) (e9 ls F)=0:=by
 obtain⟨h10,h15,hA,hp⟩:=l7 hz;have l1:=h.ok.len;have l2:=dT (f:=F) ls;have l3:=h.len;have hAp:=h.apart ls (λ_ hl=>hl) hA;have hd:m9 (e8 ds F) 0=0:=kJ _ 0 (Nat.le_refl _) λk d hk=>by
  obtain⟨x,hx,hxd⟩:=h.of hk;obtain⟨hn,hu⟩:=kH hz x d hxd;unfold C8;rw[if_pos hn,if_neg,hZ hz d (List.mem_of_getElem? hxd)];intro hany;obtain⟨e,he,hne⟩:=List.any_eq_true.1 hany;obtain⟨j,hj,hje⟩:=List.mem_take_iff_getElem.1 he;have hj':(e8 ds F)[j]?=some e:=by rw[List.getElem?_eq_getElem (by omega),hje]
  obtain⟨y,hy,hyd⟩:=h.of hj';have:=kI hz hyd hxd (by simpa using hne);subst this;have:=(h.pos hy).symm.trans (h.pos hx);omega
 unfold netV;rw[if_neg (by omega),if_pos hd];refine kK _ 0 (Nat.le_refl _) λj l hj=>?_;obtain⟨m,hm,hma,rfl⟩:=kG (List.mem_of_getElem? hj);have hmb:=(h.cl m hm).1 hma;unfold I8;dsimp only;rw[h.pl hma,h.pl hmb,(hp m hm).1,(hp m hm).2,hAp.2 _ (List.mem_of_getElem? hj)];have hno:(List.take j (e9 ls F)).any (λk=>meetB k ⟨(m8 F m.a:Int),m.p,(m8 F m.b:Int),m.q⟩)=false:=by
  refine List.any_eq_false.2 λk hk=>?_;obtain⟨i,hi,he⟩:=List.mem_take_iff_getElem.1 hk;obtain⟨hjl,hje⟩:=List.getElem?_eq_some_iff.1 hj;have:=(List.pairwise_iff_getElem.1 hAp.1) i j (by omega) hjl (by omega);rw[he,hje]at this;simp[this]
 rw[hno];rfl
theorem kM(hz:netV ds ls=0){i:Nat}{d:Dv}(h:ds[i]?=some d):∀(m k:Nat),i-k<=m->k<=i->findFrom ds d.name.toList k=(i:Int)
 | 0,k,hm,hk=>by
   obtain rfl:k=i:=by omega
   rw[cY h];simp
 | m+1,k,hm,hk=>by
   by_cases e:k=i
   ·subst e;rw[cY h];simp
   ·have hi:=(List.getElem?_eq_some_iff.1 h).1;have hkl:k<ds.length:=by omega
    rw[cY (List.getElem?_eq_getElem hkl)];rw[if_neg (λhn=>e (kI hz (List.getElem?_eq_getElem hkl) h (by simpa using hn)))];exact kM hz h m (k+1) (by omega) (by omega)
end
theorem kN{ds:List Dv}{s:List UInt8}:∀(m k:Nat),ds.length-k<=m->∀i:Nat,hostFrom ds s k=(i:Int)->∃d,ds[i]?=some d/\d.kind=1/\d.name.toList=s
 | 0,k,h,i,e=>by
   rw[de (by omega)]at e;omega
 | m+1,k,h,i,e=>by
   by_cases hk:k<ds.length
   ·rw[fQ (List.getElem?_eq_getElem hk)]at e
    split at e
    ·rename_i hc
     simp only[Bool.and_eq_true,beq_iff_eq]at hc;obtain rfl:k=i:=by omega
     exact⟨_,List.getElem?_eq_getElem hk,hc.1,hc.2⟩
    ·exact kN m (k+1) (by omega) i e
   ·rw[de (by omega)]at e;omega
theorem tG{ds:List Dv}{ls:List Lk}{s:List UInt8}(hz:netV ds ls=0){i:Nat}(hi:hostFrom ds s 0=(i:Int)):i<ds.length/\findFrom (e8 ds (wholeF ds ls (i:Int))) s 0=(m8 (wholeF ds ls (i:Int)) (i:Int):Int)/\isPl (e8 ds (wholeF ds ls (i:Int))) (m8 (wholeF ds ls (i:Int)) (i:Int):Int) 0=true:=by
 obtain⟨d,hd,hk,rfl⟩:=kN ds.length 0 (by omega) i hi;have hil:=(List.getElem?_eq_some_iff.1 hd).1;obtain⟨hP,hm⟩:=ia hz hil;have hd':(e8 ds (wholeF ds ls (i:Int)))[m8 (wholeF ds ls (i:Int)) (i:Int)]?=some d:=by
  rw[hP.dev hm,Int.toNat_natCast];exact hd
 refine⟨hil,kM (ib hz hP) hd' _ 0 (Nat.le_refl _) (Nat.zero_le _),?_⟩;rw[hP.pl hm];unfold isPl k9;rw[Int.toNat_natCast,hd];simp only[Option.map_some,Option.getD_some,hk];rw[decide_eq_true (by omega:(0:Int)<=(i:Int)),decide_eq_true (by omega:(i:Int)<(ds.length:Int))];rfl
end Go.Proofs.YtppbfikimalojaaGreat
namespace Go.Proofs.YtppbfikimalojaaGreat
open Tryz
open Go.RowKit Go.Maps
theorem laidS:laidOutB prog=true:=by kernel_rfl
theorem ic:prog.types.size=308:=by kernel_rfl
theorem cInt:prog.cellsOf 3=1:=by kernel_rfl
structure KeyEncW(k:TypeId)(α:Type) where
 enc:α->Value
 ok:α->Prop
 lit:α->Lit
 law:Keyed prog k
 key:∀x,ok x->keyOf prog k (enc x)=some (lit x)
 inj:∀x y,enc x=enc y->x=y
structure ElEnc(e:TypeId)(β:Type) where
 enc:β->Value
 R:Value->Option (DataW Unit × List MemPlace)
 dat:β->DataW Unit
 read:∀x,R (enc x)=some (dat x,[])
 inv:∀v z,R v=some z->∃x,v=enc x/\z=(dat x,[])
 inj:∀x y,dat x=dat y->x=y
 zero:β
 hz:∀w,(zeroValue e).run prog w=.ok (enc zero) w
def MapAt{k e:TypeId}{α β:Type}(E:KeyEncW k α)(V:ElEnc e β)(w:World)(b n:Nat)(f:α->Option β):Prop :=
 ∃D:DataW Unit,w.ownsMap prog k V.R b n D/\∀x,E.ok x->Maps.has D (E.lit x)=(f x).isSome/\D.atKey (E.lit x) (V.dat V.zero)=V.dat ((f x).getD V.zero)
open Classical in
noncomputable def cV {α β:Type}(f:α->Option β)(x:α)(v:β):α->Option β:=λy=>if y=x then some v else f y
theorem kO{α β:Type}(f:α->Option β)(x:α)(v:β):cV f x v x=some v:=by simp[cV]
theorem kP{α β:Type}(f:α->Option β){x y:α}(v:β)(h:y≠x):cV f x v y=f y:=by simp[cV,h]
section
variable {k e:TypeId}{α β:Type}{E:KeyEncW k α}{V:ElEnc e β}{w w':World}{b n:Nat}{f:α->Option β}
theorem MapAt.lt(h:MapAt E V w b n f):b<w.heap.size:=by
 obtain⟨D,h,_⟩:=h;exact h.lt
theorem MapAt.isMap(h:MapAt E V w b n f):∃es clock,w.heap[b]?=some (.map es clock):=by
 obtain⟨D,⟨es,clock,hb,_⟩,_⟩:=h;exact⟨es,clock,hb⟩
theorem MapAt.mono(h:MapAt E V w b n f){n':Nat}(hn:n<=n'):MapAt E V w b n' f:=by
 obtain⟨D,h,r⟩:=h;exact⟨D,h.mono hn,r⟩
theorem MapAt.same(h:MapAt E V w b n f)(hb:w'.heap[b]?=w.heap[b]?):MapAt E V w' b n f:=by
 obtain⟨D,⟨es,clock,h1,r⟩,r'⟩:=h;exact⟨D,⟨es,clock,hb.trans h1,r⟩,r'⟩
theorem tH(E:KeyEncW k α)(V:ElEnc e β)(w:World):MapAt E V (w.alloc (.map #[] 0)) w.heap.size 0 (λ_=>none) :=
 ⟨.map [],World.ownsMap_made w _ _ _,λ_ _=>⟨rfl,rfl⟩⟩
theorem MapAt.store(h:MapAt E V w b n f){t:TypeId}(ht:prog.underlying t=some (.map k e))(hn:n<maxLen){x:α}(hx:E.ok x)(v:β) :
  ∃w',(Instr.mapUpdate t (.map (some b)) (E.enc x) (V.enc v)).run prog w=.ok () w'/\MapAt E V w' b (n+1) (cV f x v)/\w.mapTurned w' b:=by
 obtain⟨D,h,r⟩:=h;obtain⟨w',hrun,hown,hgrow⟩:=h.store E.law ht hn (E.key x hx) (V.read v);refine⟨w',hrun,⟨_,hown,λy hy=>?_⟩,hgrow⟩;by_cases e:y=x
 ·subst e;rw[has_put_same h.isMap (E.law.key (E.key y hy)),atKey_put_same h.isMap (E.law.key (E.key y hy)),kO];exact⟨rfl,rfl⟩
 ·have hne:E.lit y≠E.lit x:=λhl=>by
   have k1:=E.key y hy;rw[hl]at k1;exact e (E.inj _ _ (E.law.inj k1 (E.key x hx)))
  rw[has_put_other hne,atKey_put_other hne,kP f v e];exact r y hy
end
structure Pk where
 s:Int
 d:Int
 sp:Int
 dp:Int
def bc(n:Int):Prop:=(Lit.int .i64 n).wf=true
theorem fC{n:Int}(h:-9223372036854775808<=n)(h':n<9223372036854775808):bc n:=WalkArith.wf_i64 (by omega)
structure Pk.ok(p:Pk):Prop where
 s:bc p.s
 d:bc p.d
 sp:bc p.sp
 dp:bc p.dp
abbrev pkV(p:Pk):Value:=.agg #[.int .i64 p.s,.int .i64 p.d,.int .i64 p.sp,.int .i64 p.dp]
abbrev cW(x:Int × Int):Value:=.agg #[.int .i64 x.1,.int .i64 x.2]
def N9(x:Int × Int):Prop:=bc x.1/\bc x.2
theorem tI(x y:Int × Int)(h:cW x=cW y):x=y:=by
 obtain⟨a,b⟩:=x;obtain⟨a',b'⟩:=y;simp at h;obtain⟨rfl,rfl⟩:=h;rfl
noncomputable def fD (k:TypeId)(v:Value):Lit:=(keyOf prog k v).getD (.bool false)
theorem tJ{k:TypeId}{v:Value}(hs:(keyOf prog k v).isSome=true):keyOf prog k v=some (fD k v):=by
 unfold fD;cases hk:keyOf prog k v with
 | none=>rw[hk]at hs;cases hs
 | some l=>rfl
theorem fuelS:∃m,prog.types.size+1=m+3:=⟨308-2,by rw[ic]⟩
end Go.Proofs.YtppbfikimalojaaGreat
