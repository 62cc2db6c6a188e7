/-
  XAG.
-/
import Derived.Test.YtjmclcmgpaofiaaGreatXLy
import Derived.Test.YtjmclcmgpaofiaaGreatXAF
import Derived.Test.YtjmclcmgpaofiaaGreatXAB
import Derived.Test.YtjmclcmgpaofiaaGreatXAD
import Derived.Test.YtjmclcmgpaofiaaGreatXAC
set_option maxHeartbeats 8000000
set_option maxRecDepth 100000
namespace Go.Proofs.YtjmclcmgpaofiaaGreat
open Tryz
open Go.RowKit Go.Maps
theorem xb(m:Mp)(ds:List Dv)(ls:List Lk)(n:Nat)(M:Mnd)(i q:Int)(p:Pk)(c:Int)(j k3:Int)(s3:Int × Int)(h:HR)(q2 ps pd psp pdp:Int)(pv:Option (Int × Int))(w:World)(hM:Hid (MemAt w m ds ls n M))(hn:n<maxLen)(hpl:isPl ds i q=true)(hpk:ae p=true)
  (SD:Hid (∀W,MemAt W m ds ls n M->Cl 116 #[.pointer (some ⟨m.B,m.z,none⟩),plA i q,pkV p,c] W (aP m W ⟨0,q2,⟨ps,pd,psp,pdp⟩,.own j k3 s3⟩)))
  (PE:Hid (∀W,MemAt W m ds ls n M->CB 59 #[.agg #[.slice m.A ds.length m.cap,.slice m.L ls.length m.e9],plA i q2] W (.tuple #[bS pv,.bool pv.isSome])))
  (HN:Hid (pv=none->h=aZ 7 M)) (HS:Hid (∀t,pv=some t->h=⟨0,t,⟨ps,pd,psp,pdp⟩,learnP M (.own j k3 s3)⟩)) :
  Cl 75 #[.pointer (some ⟨m.B,m.z,none⟩),plA i q,pkV p,c] w (dC m ds ls n w h):=by
 have M2:=((hM.out.alloc (.cells #[i,q] 27)).alloc (pkC p)).alloc (.cells #[.int .i64 0,.int .i64 0,.int .i64 0,.int .i64 0,.int .i64 0,.int .i64 0] 59);have D2:=Below.alN (Below.alN (Below.alN (Below.refl w w) (.cells #[i,q] 27)) (pkC p)) (.cells #[.int .i64 0,.int .i64 0,.int .i64 0,.int .i64 0,.int .i64 0,.int .i64 0] 59);have A2:=((ah w #[i,q] 27).alloc (pkC p)).alloc (.cells #[.int .i64 0,.int .i64 0,.int .i64 0,.int .i64 0,.int .i64 0,.int .i64 0] 59);have P2:=(ax (w.alloc (.cells #[i,q] 27)) #[p.s,p.d,p.sp,p.dp] 37 (w.heap.size+1) (by simp)).alloc (.cells #[.int .i64 0,.int .i64 0,.int .i64 0,.int .i64 0,.int .i64 0,.int .i64 0] 59);have R2:=ax ((w.alloc (.cells #[i,q] 27)).alloc (pkC p)) #[.int .i64 0,.int .i64 0,.int .i64 0,.int .i64 0,.int .i64 0,.int .i64 0] 59 (w.heap.size+1+1) (by simp);obtain⟨q0,q1,_,_,_⟩:=M2.cells;have Q0:(((w.alloc (.cells #[i,q] 27)).alloc (pkC p)).alloc (.cells #[.int .i64 0,.int .i64 0,.int .i64 0,.int .i64 0,.int .i64 0,.int .i64 0] 59)).drew.cell? ⟨m.B,m.z,none⟩=some (.slice m.A ds.length m.cap):=q0;have Q1:(((w.alloc (.cells #[i,q] 27)).alloc (pkC p)).alloc (.cells #[.int .i64 0,.int .i64 0,.int .i64 0,.int .i64 0,.int .i64 0,.int .i64 0] 59)).drew.cell? ⟨m.B,m.z+1,none⟩=some (.slice m.L ls.length m.e9):=q1;obtain⟨a0,a1⟩:=A2.two;have HP:Hid (∀W,MemAt W m ds ls n M->CB 95 #[.agg #[.slice m.A ds.length m.cap,.slice m.L ls.length m.e9],plA i q] W (.bool (isPl ds i q))):=λW h=>hasPlace_any _ _ _ _ _ _ _ W h.devs;have PC:Hid (∀W,CB 73 #[pkV p] W (.int .i64 (if ae p then 0 else 1))):=λW=>eU p W;rw[hpl]at HP;rw[hpk]at PC;simp only[if_true]at PC;obtain⟨tx,ty,ok,hpv,hok,HT,HF⟩:∃(tx ty:Int) (ok:Bool),bS pv=plA tx ty /\ pv.isSome=ok /\ Hid (ok=true->h=⟨0,(tx,ty),⟨ps,pd,psp,pdp⟩,learnP M (.own j k3 s3)⟩) /\ Hid (ok=false->h=aZ 7 M):=by
  cases pv with
  | none=>exact⟨0,0,_,rfl,rfl,(λe=>by cases e),λ_=>HN.out rfl⟩
  | some z=>exact⟨z.1,z.2,_,rfl,rfl,λ_=>HS.out z rfl,(λe=>by cases e)⟩
 rw[hpv,hok]at PE;clear hpv hok HN HS;obtain⟨s,dd,sp,dp⟩:=p;simp only at *;go_enter func75,ntmps75;go_wp2_with fail;go_region_held3 (λw'=>w'.cell? ⟨m.B,m.z,none⟩=some (.slice m.A ds.length m.cap) /\ w'.cell? ⟨m.B,m.z+1,none⟩=some (.slice m.L ls.length m.e9) /\ w'.cell? ⟨w,0,none⟩=some (.int .i64 i) /\ w'.cell? ⟨w,1,none⟩=some (.int .i64 q)) (go_keep) ((go_at_call 95;refine(HP.out _ M2.drew).mono ?_;rintro e w5⟨rfl,hb5⟩;have D5:=aa hb5 D2.drew;have A5:=A2.drew.keep hb5;have P5:=P2.drew.keep hb5;have R5:=R2.drew.keep hb5;have M5:=M2.drew.below hb5;have g0:=(CK.of_below hb5).cell Q0;have g1:=(CK.of_below hb5).cell Q1;obtain⟨g2,g3⟩:=A5.two))
 clear hb5 D2 A2 P2 R2 M2 q0 q1 Q0 Q1 a0 a1 HP g0 g1 g2 g3;obtain⟨⟨l0,l1,l2,l3,l4,l5⟩,⟨f0,f1,f2,f3,f4,f5⟩⟩:=R5.six;have z5:w.heap.size+1+1<w5.heap.size:=R5.lt;obtain⟨p0,p1,p2,p3,_⟩:=P5.four;go_wp2_with fail;refine(PC.out _).mono ?_;rintro e w6⟨rfl,hb6⟩;have D6:=aa hb6 D5;have A6:=A5.keep hb6;have P6:=P5.keep hb6;have R6:=R5.keep hb6;have M6:=M5.below hb6;clear hb6 D5 A5 P5 R5 M5 p0 p1 p2 p3 l0 l1 l2 l3 l4 l5 f0 f1 f2 f3 f4 f5 PC z5;obtain⟨⟨l0,l1,l2,l3,l4,l5⟩,⟨f0,f1,f2,f3,f4,f5⟩⟩:=R6.six;obtain⟨p0,p1,p2,p3',_⟩:=P6.four;obtain⟨a0,a1⟩:=A6.two;go_wp2_with fail;refine(SD.out _ M6).mono ?_;rintro e w7⟨q9,p9,fv,er,rfl,HQ,hb7⟩;obtain⟨he,_,hz⟩:=HQ.out;obtain⟨hq9,hp9,HL⟩:=hz rfl;simp only at he hq9 hp9 HL;have hq9':=hq9.symm;subst he hq9' hp9;have D7:=aa hb7 D6;have R7:=R6.keep hb7;have A7:=A6.keep hb7;have M7:=M6.below hb7;clear hb7 D6 A6 P6 R6 M6 p0 p1 p2 p3' a0 a1 l0 l1 l2 l3 l4 l5 f0 f1 f2 f3 f4 f5 SD HQ hz;obtain⟨_,_,ca,cb,cc,cd,rfl,_⟩:=id HL;have z7:w.heap.size+1+1<w7.heap.size:=R7.lt;have D8:=Below.alN D7 (.cells #[q2,ps,pd,psp,pdp,.func (.func 184) #[] #[.pointer ca,.pointer cb,.pointer cc,.pointer cd]] 214);have R8:=R7.alloc (.cells #[q2,ps,pd,psp,pdp,.func (.func 184) #[] #[.pointer ca,.pointer cb,.pointer cc,.pointer cd]] 214);have A8:=A7.alloc (.cells #[q2,ps,pd,psp,pdp,.func (.func 184) #[] #[.pointer ca,.pointer cb,.pointer cc,.pointer cd]] 214);have M8:=M7.alloc (.cells #[q2,ps,pd,psp,pdp,.func (.func 184) #[] #[.pointer ca,.pointer cb,.pointer cc,.pointer cd]] 214);have HL8:=HL.below ((Below.refl _ w7).alloc (Nat.le_refl _) (.cells #[q2,ps,pd,psp,pdp,.func (.func 184) #[] #[.pointer ca,.pointer cb,.pointer cc,.pointer cd]] 214));have O8:=ah w7 #[q2,ps,pd,psp,pdp,.func (.func 184) #[] #[.pointer ca,.pointer cb,.pointer cc,.pointer cd]] 214;clear D7 R7 A7 M7 HL;go_upto_region 9 with fail;generalize hON:w7.heap.size=on at *;generalize hW:w7.alloc (.cells #[q2,ps,pd,psp,pdp,.func (.func 184) #[] #[.pointer ca,.pointer cb,.pointer cc,.pointer cd]] 214)=w8 at *;clear hON hW;obtain⟨g0,g1,g2,g3⟩:=peS M8 A8 O8;have D8a:=(Below.alN D8 (.cells #[.int .i64 0,.int .i64 0] 27)).drew;have M8a:=(M8.alloc (.cells #[.int .i64 0,.int .i64 0] 27)).drew;have A8a:=(A8.alloc (.cells #[.int .i64 0,.int .i64 0] 27)).drew;have O8a:=(O8.alloc (.cells #[.int .i64 0,.int .i64 0] 27)).drew;have R8a:=(R8.alloc (.cells #[.int .i64 0,.int .i64 0] 27)).drew;have H8a:=HL8.below ((Below.refl _ w8).alloc (Nat.le_refl _) (.cells #[.int .i64 0,.int .i64 0] 27)).drew;have H8d:=HL8.below (Below.refl _ w8).drew;have M8d:=M8.drew;have A8d:=A8.drew;have O8d:=O8.drew;go_cut [13,14] (λv13 v14 wx=>∃g,v13=.pointer (some ⟨g,0,none⟩) /\ v14=.bool ok /\ Bk wx g #[tx,ty] 27 /\ w.heap.size+1+1<g /\ Bk wx on #[q2,ps,pd,psp,pdp,.func (.func 184) #[] #[.pointer ca,.pointer cb,.pointer cc,.pointer cd]] 214 /\ Bk wx (w.heap.size+1+1) #[.int .i64 0,.int .i64 0,.int .i64 0,.int .i64 0,.int .i64 0,.int .i64 0] 59 /\ MemAt wx m ds ls n M /\ LrnAt w6.heap.size wx m (.func (.func 184) #[] #[.pointer ca,.pointer cb,.pointer cc,.pointer cd]) (.own j k3 s3) /\ Below w w wx)
 case first =>
  have zz8:w.heap.size+1+1<w8.heap.size:=R8.lt;go_region_held3 (λw'=>w'.cell? ⟨m.B,m.z,none⟩=some (.slice m.A ds.length m.cap) /\ w'.cell? ⟨m.B,m.z+1,none⟩=some (.slice m.L ls.length m.e9) /\ w'.cell? ⟨w,0,none⟩=some (.int .i64 i) /\ w'.cell? ⟨on,0,none⟩=some (.int .i64 q2)) (first|exact peS (by first|assumption|exact MemAt.alloc ‹_› _) (by first|assumption|exact Bk.alloc ‹_› _) (by first|assumption|exact Bk.alloc ‹_› _)|exact peS (M8.below ((E9.setCell (p:=⟨w8,0,none⟩) (Nat.le_refl _) _).setCell (p:=⟨w8,1,none⟩) (Nat.le_refl _) _)) (A8.keep ((E9.setCell (p:=⟨w8,0,none⟩) (Nat.le_refl _) _).setCell (p:=⟨w8,1,none⟩) (Nat.le_refl _) _)) (O8.keep ((E9.setCell (p:=⟨w8,0,none⟩) (Nat.le_refl _) _).setCell (p:=⟨w8,1,none⟩) (Nat.le_refl _) _))) (first|(go_at_call 59;refine(PE.out _ M8d).mono ?_;rintro e w9⟨rfl,hb9⟩;have D9:=aa hb9 D8.drew;have M9:=M8d.below hb9;have A9:=A8d.keep hb9;have O9:=O8d.keep hb9;have R9:=R8.drew.keep hb9;have H9:=H8d.below hb9;have G9:=ah w9 #[tx,ty] 27)|(go_at_call 59;refine(PE.out _ M8a).mono ?_;rintro e w9⟨rfl,hb9⟩;have D9:=aa hb9 D8a;have M9:=M8a.below hb9;have A9:=A8a.keep hb9;have O9:=O8a.keep hb9;have R9:=R8a.keep hb9;have H9:=H8a.below hb9;have G9:=(ah w8 #[.int .i64 0,.int .i64 0] 27).drew.keep hb9;have E9:=aa hb9 ((Below.refl _ w8).alloc (Nat.le_refl _) (.cells #[.int .i64 0,.int .i64 0] 27)).drew;have gf0:=G9.fz 0;have gf1:=G9.fz 1;obtain⟨gg0,gg1⟩:=G9.two))
  all_goals
   go_wp2_with fail
   go_meet
   first
    | exact⟨_,rfl,rfl,G9,(by have:=R9.lt;omega),O9.alloc _,R9.alloc _,M9.alloc _,H9.below ((Below.refl _ _).alloc (Nat.le_refl _) _),Below.alN D9 _⟩
    | exact⟨_,rfl,rfl,(by have:=(G9.setS (j:=0) (.int .i64 tx)).setS (j:=1) (.int .i64 ty);simpa using this),zz8,O8.keep ((E9.setCell (p:=⟨w8,0,none⟩) (Nat.le_refl _) _).setCell (p:=⟨w8,1,none⟩) (Nat.le_refl _) _),R8.keep ((E9.setCell (p:=⟨w8,0,none⟩) (Nat.le_refl _) _).setCell (p:=⟨w8,1,none⟩) (Nat.le_refl _) _),M8.below ((E9.setCell (p:=⟨w8,0,none⟩) (Nat.le_refl _) _).setCell (p:=⟨w8,1,none⟩) (Nat.le_refl _) _),HL8.below ((E9.setCell (p:=⟨w8,0,none⟩) (Nat.le_refl _) _).setCell (p:=⟨w8,1,none⟩) (Nat.le_refl _) _),aa ((E9.setCell (p:=⟨w8,0,none⟩) (Nat.le_refl _) _).setCell (p:=⟨w8,1,none⟩) (Nat.le_refl _) _) D8⟩
 case rest =>
  clear D8 R8 A8 M8 HL8 O8 g0 g1 g2 g3 D8a M8a A8a O8a R8a H8a H8d M8d A8d O8d PE;obtain⟨g,rfl,rfl,G8,zg,O8,R8,M8,HL8,D8⟩:=hcut;obtain⟨⟨l0,l1,l2,l3,l4,l5⟩,⟨f0,f1,f2,f3,f4,f5⟩⟩:=R8.six;cases ok
  ·have HV:Hid (h=aZ 7 M):=HF.out rfl;go_wp2_with fail;refine bodyPost_ret (v:=.tuple #[arV (0,0) zeroP,.int .i64 7]) (by simp[results,results75,go_sem,l0,l1,l2,l3,l4,l5,zeroP]) rfl (eB HV.out hM.out (by go_grown))
  have HV:=HT.out rfl;obtain⟨⟨o0,o1,o2,o3,o4,o5⟩,_⟩:=O8.six;clear l0 l1 l2 l3 l4 l5 f0 f1 f2 f3 f4 f5;go_wp2_with fail;obtain⟨hj,hk3,ca',cb',cc',cd',ee,_,_,_,_,d0,d1,d2,d3,d4⟩:=HL8;cases ee;refine(rF _ _ _ _ m ds ls n M j k3 s3 _ M8 hn hj hk3 d0 d1 d2 d3 d4).mono ?_;rintro e w9⟨rfl,M9,K9⟩;have G9:=G8.ck (M8.ck K9);have O9:=O8.ck (M8.ck K9);have R9:=R8.ck (M8.ck K9);clear d0 d1 d2 d3 d4 hj hk3;clear o0 o1 o2 o3 o4 o5;obtain⟨⟨o0,o1,o2,o3,o4,o5⟩,_⟩:=O9.six;obtain⟨⟨l0,l1,l2,l3,l4,l5⟩,⟨f0,f1,f2,f3,f4,f5⟩⟩:=R9.six;obtain⟨gx,gy⟩:=G9.two;go_wp2_with fail;refine bodyPost_ret (v:=.tuple #[arV (tx,ty) ⟨ps,pd,psp,pdp⟩,.int .i64 0]) (by simp[results,results75,go_sem,l0,l1,l2,l3,l4,l5]) rfl (iE HV hM.out D8 K9 M9 (by omega) _ _ _ _ _ _)
theorem xe(m:Mp)(ds:List Dv)(ls:List Lk)(n:Nat)(M:Mnd)(i q:Int)(p:Pk)(c:Int)(j:Int)(p3:Pk)(x3:Int)(h:HR)(q2 ps pd psp pdp:Int)(pv:Option (Int × Int))(w:World)(hM:Hid (MemAt w m ds ls n M))(hn:n<maxLen)(hpl:isPl ds i q=true)(hpk:ae p=true)
  (SD:Hid (∀W,MemAt W m ds ls n M->Cl 116 #[.pointer (some ⟨m.B,m.z,none⟩),plA i q,pkV p,c] W (aP m W ⟨0,q2,⟨ps,pd,psp,pdp⟩,.back j p3 x3⟩)))
  (PE:Hid (∀W,MemAt W m ds ls n M->CB 59 #[.agg #[.slice m.A ds.length m.cap,.slice m.L ls.length m.e9],plA i q2] W (.tuple #[bS pv,.bool pv.isSome])))
  (HN:Hid (pv=none->h=aZ 7 M)) (HS:Hid (∀t,pv=some t->h=⟨0,t,⟨ps,pd,psp,pdp⟩,learnP M (.back j p3 x3)⟩)) :
  Cl 75 #[.pointer (some ⟨m.B,m.z,none⟩),plA i q,pkV p,c] w (dC m ds ls n w h):=by
 have M2:=((hM.out.alloc (.cells #[i,q] 27)).alloc (pkC p)).alloc (.cells #[.int .i64 0,.int .i64 0,.int .i64 0,.int .i64 0,.int .i64 0,.int .i64 0] 59);have D2:=Below.alN (Below.alN (Below.alN (Below.refl w w) (.cells #[i,q] 27)) (pkC p)) (.cells #[.int .i64 0,.int .i64 0,.int .i64 0,.int .i64 0,.int .i64 0,.int .i64 0] 59);have A2:=((ah w #[i,q] 27).alloc (pkC p)).alloc (.cells #[.int .i64 0,.int .i64 0,.int .i64 0,.int .i64 0,.int .i64 0,.int .i64 0] 59);have P2:=(ax (w.alloc (.cells #[i,q] 27)) #[p.s,p.d,p.sp,p.dp] 37 (w.heap.size+1) (by simp)).alloc (.cells #[.int .i64 0,.int .i64 0,.int .i64 0,.int .i64 0,.int .i64 0,.int .i64 0] 59);have R2:=ax ((w.alloc (.cells #[i,q] 27)).alloc (pkC p)) #[.int .i64 0,.int .i64 0,.int .i64 0,.int .i64 0,.int .i64 0,.int .i64 0] 59 (w.heap.size+1+1) (by simp);obtain⟨q0,q1,_,_,_⟩:=M2.cells;have Q0:(((w.alloc (.cells #[i,q] 27)).alloc (pkC p)).alloc (.cells #[.int .i64 0,.int .i64 0,.int .i64 0,.int .i64 0,.int .i64 0,.int .i64 0] 59)).drew.cell? ⟨m.B,m.z,none⟩=some (.slice m.A ds.length m.cap):=q0;have Q1:(((w.alloc (.cells #[i,q] 27)).alloc (pkC p)).alloc (.cells #[.int .i64 0,.int .i64 0,.int .i64 0,.int .i64 0,.int .i64 0,.int .i64 0] 59)).drew.cell? ⟨m.B,m.z+1,none⟩=some (.slice m.L ls.length m.e9):=q1;obtain⟨a0,a1⟩:=A2.two;have HP:Hid (∀W,MemAt W m ds ls n M->CB 95 #[.agg #[.slice m.A ds.length m.cap,.slice m.L ls.length m.e9],plA i q] W (.bool (isPl ds i q))):=λW h=>hasPlace_any _ _ _ _ _ _ _ W h.devs;have PC:Hid (∀W,CB 73 #[pkV p] W (.int .i64 (if ae p then 0 else 1))):=λW=>eU p W;rw[hpl]at HP;rw[hpk]at PC;simp only[if_true]at PC;obtain⟨tx,ty,ok,hpv,hok,HT,HF⟩:∃(tx ty:Int) (ok:Bool),bS pv=plA tx ty /\ pv.isSome=ok /\ Hid (ok=true->h=⟨0,(tx,ty),⟨ps,pd,psp,pdp⟩,learnP M (.back j p3 x3)⟩) /\ Hid (ok=false->h=aZ 7 M):=by
  cases pv with
  | none=>exact⟨0,0,_,rfl,rfl,(λe=>by cases e),λ_=>HN.out rfl⟩
  | some z=>exact⟨z.1,z.2,_,rfl,rfl,λ_=>HS.out z rfl,(λe=>by cases e)⟩
 rw[hpv,hok]at PE;clear hpv hok HN HS;obtain⟨s,dd,sp,dp⟩:=p;simp only at *;go_enter func75,ntmps75;go_wp2_with fail;go_region_held3 (λw'=>w'.cell? ⟨m.B,m.z,none⟩=some (.slice m.A ds.length m.cap) /\ w'.cell? ⟨m.B,m.z+1,none⟩=some (.slice m.L ls.length m.e9) /\ w'.cell? ⟨w,0,none⟩=some (.int .i64 i) /\ w'.cell? ⟨w,1,none⟩=some (.int .i64 q)) (go_keep) ((go_at_call 95;refine(HP.out _ M2.drew).mono ?_;rintro e w5⟨rfl,hb5⟩;have D5:=aa hb5 D2.drew;have A5:=A2.drew.keep hb5;have P5:=P2.drew.keep hb5;have R5:=R2.drew.keep hb5;have M5:=M2.drew.below hb5;have g0:=(CK.of_below hb5).cell Q0;have g1:=(CK.of_below hb5).cell Q1;obtain⟨g2,g3⟩:=A5.two))
 clear hb5 D2 A2 P2 R2 M2 q0 q1 Q0 Q1 a0 a1 HP g0 g1 g2 g3;obtain⟨⟨l0,l1,l2,l3,l4,l5⟩,⟨f0,f1,f2,f3,f4,f5⟩⟩:=R5.six;have z5:w.heap.size+1+1<w5.heap.size:=R5.lt;obtain⟨p0,p1,p2,p3,_⟩:=P5.four;go_wp2_with fail;refine(PC.out _).mono ?_;rintro e w6⟨rfl,hb6⟩;have D6:=aa hb6 D5;have A6:=A5.keep hb6;have P6:=P5.keep hb6;have R6:=R5.keep hb6;have M6:=M5.below hb6;clear hb6 D5 A5 P5 R5 M5 p0 p1 p2 p3 l0 l1 l2 l3 l4 l5 f0 f1 f2 f3 f4 f5 PC z5;obtain⟨⟨l0,l1,l2,l3,l4,l5⟩,⟨f0,f1,f2,f3,f4,f5⟩⟩:=R6.six;obtain⟨p0,p1,p2,p3',_⟩:=P6.four;obtain⟨a0,a1⟩:=A6.two;go_wp2_with fail;refine(SD.out _ M6).mono ?_;rintro e w7⟨q9,p9,fv,er,rfl,HQ,hb7⟩;obtain⟨he,_,hz⟩:=HQ.out;obtain⟨hq9,hp9,HL⟩:=hz rfl;simp only at he hq9 hp9 HL;have hq9':=hq9.symm;subst he hq9' hp9;have D7:=aa hb7 D6;have R7:=R6.keep hb7;have A7:=A6.keep hb7;have M7:=M6.below hb7;clear hb7 D6 A6 P6 R6 M6 p0 p1 p2 p3' a0 a1 l0 l1 l2 l3 l4 l5 f0 f1 f2 f3 f4 f5 SD HQ hz;obtain⟨_,_,ca,cb,cc,rfl,_⟩:=id HL;have z7:w.heap.size+1+1<w7.heap.size:=R7.lt;have D8:=Below.alN D7 (.cells #[q2,ps,pd,psp,pdp,.func (.func 185) #[] #[.pointer ca,.pointer cb,.pointer cc]] 214);have R8:=R7.alloc (.cells #[q2,ps,pd,psp,pdp,.func (.func 185) #[] #[.pointer ca,.pointer cb,.pointer cc]] 214);have A8:=A7.alloc (.cells #[q2,ps,pd,psp,pdp,.func (.func 185) #[] #[.pointer ca,.pointer cb,.pointer cc]] 214);have M8:=M7.alloc (.cells #[q2,ps,pd,psp,pdp,.func (.func 185) #[] #[.pointer ca,.pointer cb,.pointer cc]] 214);have HL8:=HL.below ((Below.refl _ w7).alloc (Nat.le_refl _) (.cells #[q2,ps,pd,psp,pdp,.func (.func 185) #[] #[.pointer ca,.pointer cb,.pointer cc]] 214));have O8:=ah w7 #[q2,ps,pd,psp,pdp,.func (.func 185) #[] #[.pointer ca,.pointer cb,.pointer cc]] 214;clear D7 R7 A7 M7 HL;go_upto_region 9 with fail;generalize hON:w7.heap.size=on at *;generalize hW:w7.alloc (.cells #[q2,ps,pd,psp,pdp,.func (.func 185) #[] #[.pointer ca,.pointer cb,.pointer cc]] 214)=w8 at *;clear hON hW;obtain⟨g0,g1,g2,g3⟩:=peS M8 A8 O8;have D8a:=(Below.alN D8 (.cells #[.int .i64 0,.int .i64 0] 27)).drew;have M8a:=(M8.alloc (.cells #[.int .i64 0,.int .i64 0] 27)).drew;have A8a:=(A8.alloc (.cells #[.int .i64 0,.int .i64 0] 27)).drew;have O8a:=(O8.alloc (.cells #[.int .i64 0,.int .i64 0] 27)).drew;have R8a:=(R8.alloc (.cells #[.int .i64 0,.int .i64 0] 27)).drew;have H8a:=HL8.below ((Below.refl _ w8).alloc (Nat.le_refl _) (.cells #[.int .i64 0,.int .i64 0] 27)).drew;have H8d:=HL8.below (Below.refl _ w8).drew;have M8d:=M8.drew;have A8d:=A8.drew;have O8d:=O8.drew;go_cut [13,14] (λv13 v14 wx=>∃g,v13=.pointer (some ⟨g,0,none⟩) /\ v14=.bool ok /\ Bk wx g #[tx,ty] 27 /\ w.heap.size+1+1<g /\ Bk wx on #[q2,ps,pd,psp,pdp,.func (.func 185) #[] #[.pointer ca,.pointer cb,.pointer cc]] 214 /\ Bk wx (w.heap.size+1+1) #[.int .i64 0,.int .i64 0,.int .i64 0,.int .i64 0,.int .i64 0,.int .i64 0] 59 /\ MemAt wx m ds ls n M /\ LrnAt w6.heap.size wx m (.func (.func 185) #[] #[.pointer ca,.pointer cb,.pointer cc]) (.back j p3 x3) /\ Below w w wx)
 case first =>
  have zz8:w.heap.size+1+1<w8.heap.size:=R8.lt;go_region_held3 (λw'=>w'.cell? ⟨m.B,m.z,none⟩=some (.slice m.A ds.length m.cap) /\ w'.cell? ⟨m.B,m.z+1,none⟩=some (.slice m.L ls.length m.e9) /\ w'.cell? ⟨w,0,none⟩=some (.int .i64 i) /\ w'.cell? ⟨on,0,none⟩=some (.int .i64 q2)) (first|exact peS (by first|assumption|exact MemAt.alloc ‹_› _) (by first|assumption|exact Bk.alloc ‹_› _) (by first|assumption|exact Bk.alloc ‹_› _)|exact peS (M8.below ((E9.setCell (p:=⟨w8,0,none⟩) (Nat.le_refl _) _).setCell (p:=⟨w8,1,none⟩) (Nat.le_refl _) _)) (A8.keep ((E9.setCell (p:=⟨w8,0,none⟩) (Nat.le_refl _) _).setCell (p:=⟨w8,1,none⟩) (Nat.le_refl _) _)) (O8.keep ((E9.setCell (p:=⟨w8,0,none⟩) (Nat.le_refl _) _).setCell (p:=⟨w8,1,none⟩) (Nat.le_refl _) _))) (first|(go_at_call 59;refine(PE.out _ M8d).mono ?_;rintro e w9⟨rfl,hb9⟩;have D9:=aa hb9 D8.drew;have M9:=M8d.below hb9;have A9:=A8d.keep hb9;have O9:=O8d.keep hb9;have R9:=R8.drew.keep hb9;have H9:=H8d.below hb9;have G9:=ah w9 #[tx,ty] 27)|(go_at_call 59;refine(PE.out _ M8a).mono ?_;rintro e w9⟨rfl,hb9⟩;have D9:=aa hb9 D8a;have M9:=M8a.below hb9;have A9:=A8a.keep hb9;have O9:=O8a.keep hb9;have R9:=R8a.keep hb9;have H9:=H8a.below hb9;have G9:=(ah w8 #[.int .i64 0,.int .i64 0] 27).drew.keep hb9;have E9:=aa hb9 ((Below.refl _ w8).alloc (Nat.le_refl _) (.cells #[.int .i64 0,.int .i64 0] 27)).drew;have gf0:=G9.fz 0;have gf1:=G9.fz 1;obtain⟨gg0,gg1⟩:=G9.two))
  all_goals
   go_wp2_with fail
   go_meet
   first
    | exact⟨_,rfl,rfl,G9,(by have:=R9.lt;omega),O9.alloc _,R9.alloc _,M9.alloc _,H9.below ((Below.refl _ _).alloc (Nat.le_refl _) _),Below.alN D9 _⟩
    | exact⟨_,rfl,rfl,(by have:=(G9.setS (j:=0) (.int .i64 tx)).setS (j:=1) (.int .i64 ty);simpa using this),zz8,O8.keep ((E9.setCell (p:=⟨w8,0,none⟩) (Nat.le_refl _) _).setCell (p:=⟨w8,1,none⟩) (Nat.le_refl _) _),R8.keep ((E9.setCell (p:=⟨w8,0,none⟩) (Nat.le_refl _) _).setCell (p:=⟨w8,1,none⟩) (Nat.le_refl _) _),M8.below ((E9.setCell (p:=⟨w8,0,none⟩) (Nat.le_refl _) _).setCell (p:=⟨w8,1,none⟩) (Nat.le_refl _) _),HL8.below ((E9.setCell (p:=⟨w8,0,none⟩) (Nat.le_refl _) _).setCell (p:=⟨w8,1,none⟩) (Nat.le_refl _) _),aa ((E9.setCell (p:=⟨w8,0,none⟩) (Nat.le_refl _) _).setCell (p:=⟨w8,1,none⟩) (Nat.le_refl _) _) D8⟩
 case rest =>
  clear D8 R8 A8 M8 HL8 O8 g0 g1 g2 g3 D8a M8a A8a O8a R8a H8a H8d M8d A8d O8d PE;obtain⟨g,rfl,rfl,G8,zg,O8,R8,M8,HL8,D8⟩:=hcut;obtain⟨⟨l0,l1,l2,l3,l4,l5⟩,⟨f0,f1,f2,f3,f4,f5⟩⟩:=R8.six;cases ok
  ·have HV:Hid (h=aZ 7 M):=HF.out rfl;go_wp2_with fail;refine bodyPost_ret (v:=.tuple #[arV (0,0) zeroP,.int .i64 7]) (by simp[results,results75,go_sem,l0,l1,l2,l3,l4,l5,zeroP]) rfl (eB HV.out hM.out (by go_grown))
  have HV:=HT.out rfl;obtain⟨⟨o0,o1,o2,o3,o4,o5⟩,_⟩:=O8.six;clear l0 l1 l2 l3 l4 l5 f0 f1 f2 f3 f4 f5;go_wp2_with fail;obtain⟨hj,hp3,ca',cb',cc',ee,_,_,_,d6,d0,d1,d2,d3,d4,d5⟩:=HL8;cases ee;refine(rG _ _ _ m ds ls n M j p3 x3 _ M8 hn hj hp3 d6 d0 d1 d2 d3 d4 d5).mono ?_;rintro e w9⟨rfl,M9,K9⟩;have G9:=G8.ck (M8.ck K9);have O9:=O8.ck (M8.ck K9);have R9:=R8.ck (M8.ck K9);clear d0 d1 d2 d3 d4 d5 d6 hj hp3;clear o0 o1 o2 o3 o4 o5;obtain⟨⟨o0,o1,o2,o3,o4,o5⟩,_⟩:=O9.six;obtain⟨⟨l0,l1,l2,l3,l4,l5⟩,⟨f0,f1,f2,f3,f4,f5⟩⟩:=R9.six;obtain⟨gx,gy⟩:=G9.two;go_wp2_with fail;refine bodyPost_ret (v:=.tuple #[arV (tx,ty) ⟨ps,pd,psp,pdp⟩,.int .i64 0]) (by simp[results,results75,go_sem,l0,l1,l2,l3,l4,l5]) rfl (iE HV hM.out D8 K9 M9 (by omega) _ _ _ _ _ _)
def kG(ds:List Dv):Prop:=∀d∈ds,aj d.addr
theorem xf(m:Mp)(ds:List Dv)(ls:List Lk)(n:Nat)(M:Mnd)(i q:Int)(p:Pk)(c:Int)(w:World)(hM:MemAt w m ds ls n M)(hn:n<maxLen)(ha:kG ds)(hi:aj i)(hc:aj c) :
  Cl 75 #[.pointer (some ⟨m.B,m.z,none⟩),plA i q,pkV p,c] w (dC m ds ls n w (aB ds ls M i q p c)):=by
 cases hpl:isPl ds i q
 ·exact so m ds ls n M i q p c _ w hM hpl (by show _=_;unfold aB;rw[hpl];rfl)
 cases hpk:ae p
 ·exact sq m ds ls n M i q p c _ w hM hpl hpk (by show _=_;unfold aB;rw[hpl,hpk];rfl)
 obtain⟨k,rfl,d,hd,hg⟩:=sk hpl;have e:aB ds ls M (k:Int) q p c=if(sendP d M (k:Int) q p c).err=0 then(match peerF ls (k:Int) (sendP d M (k:Int) q p c).port with
    | some t=>⟨0,t,(sendP d M (k:Int) q p c).p,learnP M (sendP d M (k:Int) q p c).l⟩
    | none=>aZ 7 M)else aZ (sendP d M (k:Int) q p c).err M:=by
  unfold aB;rw[hpl,hpk,hg];rfl
 have SD:∀W,MemAt W m ds ls n M->Cl 116 #[.pointer (some ⟨m.B,m.z,none⟩),plA (k:Int) q,pkV p,c] W (aP m W (sendP d M (k:Int) q p c)):=λW h=>sj m ds ls n M k d q p c W h hd (bm hpk) hi hc (ha d (List.mem_of_getElem? hd));rw[e];generalize sendP d M (k:Int) q p c=r at *;by_cases hz:r.err=0
 rotate_left
 ·rw[if_neg hz];exact sr m ds ls n M k q p c _ r w hM hpl hpk (by simpa using hz) rfl SD
 rw[if_pos hz];obtain⟨er,port,⟨ps,pd,psp,pdp⟩,l⟩:=r;simp only at hz;subst hz;have PE:∀W,MemAt W m ds ls n M->CB 59 #[.agg #[.slice m.A ds.length m.cap,.slice m.L ls.length m.e9],plA (k:Int) port] W (.tuple #[bS (peerF ls (k:Int) port),.bool (peerF ls (k:Int) port).isSome]):=λW h=>ib _ _ _ _ ls _ _ W h.links;simp only;generalize peerF ls (k:Int) port=pv at *;cases l with
 | no=>exact ss m ds ls n M k q p c _ port ps pd psp pdp pv w hM hn hpl hpk SD PE (λe=>by subst e;rfl) (λt e=>by subst e;rfl)
 | flow j p3=>exact sv m ds ls n M k q p c j p3 _ port ps pd psp pdp pv w hM hn hpl hpk SD PE (λe=>by subst e;rfl) (λt e=>by subst e;rfl)
 | own j k3 s3=>exact xb m ds ls n M k q p c j k3 s3 _ port ps pd psp pdp pv w hM hn hpl hpk SD PE (λe=>by subst e;rfl) (λt e=>by subst e;rfl)
 | back j p3 x3=>exact xe m ds ls n M k q p c j p3 x3 _ port ps pd psp pdp pv w hM hn hpl hpk SD PE (λe=>by subst e;rfl) (λt e=>by subst e;rfl)
end Go.Proofs.YtjmclcmgpaofiaaGreat
namespace Go.Proofs.YtjmclcmgpaofiaaGreat
open Tryz
open Go.RowKit
theorem xg(A:Option Addr)(n cap:Nat)(bs:List Int)(x:Int)(a9:Nat)(w:World)(hB:Hid (SlAt a9 w 1 IsI (.slice A n cap) bs)) :
  Cl 82 #[.slice A n cap,x] w λe w'=>∃j:Int,e=.returned j /\ Hid (decide (0<=j)=bs.any (λy=>y == x)) /\ w'=w:=by
 obtain⟨A',e9,e,_,h1,h2,_⟩:=id hB.out;cases e;unfold maxLen at h2;generalize hres:bs.any (λy=>y == x)=res;have HR:Hid (bs.any (λy=>y == x)=res):=hres;clear hres;go_enter func82,ntmps82;go_wp2_with fail
 go_loop [8] (λi=>∃k:Nat,i=.int .i64 (k:Int) /\ k<=bs.length /\ Hid ((bs.take k).any (λy=>y == x)=false)) (λi=>bs.length-(intOf i).toNat)
 case atStart=>exact⟨0,rfl,by omega,rfl⟩
 case round =>
  obtain⟨k,rfl,hk,hno⟩:=hrel;by_cases hlt:k<bs.length
  ·obtain⟨y,hxk⟩:∃y,bs[k]?=some y:=⟨_,List.getElem?_eq_getElem hlt⟩;obtain⟨b,o,rfl,_,hcell⟩:=Ints.at hB.out hxk;have c0:=hcell k y hxk;have HT:Hid ((bs.take (k+1)).any (λz=>z == x)=((bs.take k).any (λz=>z == x)||(y == x))):=vR hxk;have HM:Hid (y == x->bs.any (λy=>y == x)=true):=λh=>List.any_eq_true.2 ⟨y,List.mem_of_getElem? hxk,h⟩;have k1:(0:Int)<=(k:Int):=by omega
   have k2:(k:Int)<(bs.length:Int):=by omega
   clear hxk hcell hB;cases hv:(y == x)
   ·have hv2:(x == y)=false:=by rw[BEq.comm];exact hv
    have HV:Hid ((bs.take (k+1)).any (λz=>z == x)=false):=by
     show _=_;rw[HT.out,hno.out,hv];rfl
    clear HT HM hno hv;go_wp2_with fail
    go_round
    case rel=>exact⟨k+1,by go_num,by omega,HV⟩
    case measure=>simp[intOf];omega
   ·have hv2:(x == y)=true:=by rw[BEq.comm];exact hv
    have HV:Hid (res=true):=by
     show _=_;rw[<- HR.out,HM.out hv]
    clear HT HM hno hv;go_wp2_with fail;go_ret;exact⟨_,rfl,(by show _=_;rw[HV.out];simp),rfl⟩
  ·have HV:Hid (res=false):=by
    show _=_;rw[<- HR.out];have:=hno.out;rw[show k=bs.length by omega,List.take_length]at this;exact this
   go_wp2_with fail;go_ret;exact⟨_,rfl,(by show _=_;rw[HV.out];simp),rfl⟩
theorem xj(A:Option Addr)(n cap:Nat)(bs:List Int)(x:Int)(a9:Nat)(w:World)(hB:Hid (SlAt a9 w 1 IsI (.slice A n cap) bs)) :
  CS 117 #[.slice A n cap,x] w (.bool (bs.any (λy=>y == x))):=by
 have IX:Hid (∀w',w'=w->Cl 82 #[.slice A n cap,x] w' λe w'=>∃j:Int,e=.returned j /\ Hid (decide (0<=j)=bs.any (λy=>y == x)) /\ w'=w):=λw' h=>by subst h;exact xg A n cap bs x a9 w' hB
 clear hB;generalize bs.any (λy=>y == x)=v at *;go_enter func117,ntmps117;go_wp2_with fail;refine(IX.out _ rfl).mono ?_;rintro e w2⟨j,rfl,hj,rfl⟩;clear IX;go_wp2_with fail;go_ret;exact⟨by rw[<- hj.out];rfl,rfl⟩
theorem backsFrom_vals(bs:List Int)(ad:Int):∀(m k:Nat),bs.length-k<=m->bg bs ad k=0\/bg bs ad k=1
 | 0,k,h=>by rw[ky (by omega)];simp
 | m+1,k,h=>by
   by_cases hk:k<bs.length
   ·rw[ia (List.getElem?_eq_getElem hk)]
    split
    ·exact backsFrom_vals bs ad m (k+1) (by omega)
    ·simp
   ·rw[ky (by omega)];simp
def backsF(k ad:Int)(bs:List Int):Bool:=(decide (0<bs.length) ==(k == 5))&&decide (bg bs ad 0=0)
theorem xm(nm:ByteArray)(k ad:Int)(pl:Nat)(A:Option Addr)(cap:Nat)(bs:List Int)(vr vt:Value)(res:Bool)(w:World)(hB:Hid (SlAt w w 1 IsI (.slice A bs.length cap) bs))(hcap:bs.length<=cap)(hmax:cap<=maxLen)(hne:(decide (0<bs.length) ==(k == 5))=true)(HR:Hid (decide (bg bs ad 0=0)=res)) :
  CB 91 #[cR nm k ad pl (.slice A bs.length cap) vr vt] w (.bool res):=by
 unfold maxLen at hmax;have D0:=Below.alN (Below.refl w w) (.cells #[.string nm,k,ad,.int .u8 (pl:Int),.slice A bs.length cap,vr,vt] 70);have V0:=kz w (.string nm) (.int .i64 k) (.int .i64 ad) (.int .u8 (pl:Int)) (.slice A bs.length cap) vr vt 70;have BW:=SlAt.below hB.out D0 (λ_ _ _ h=>h);have hne2:(decide ((0:Int)<(bs.length:Int)) ==(k == 5))=true:=by
  rw[<- hne]
  congr 1
  rw[decide_eq_decide];omega
 have hne3:(decide (0<bs.length))=(k == 5):=eq_of_beq hne;have hne4:(decide ((0:Int)<(bs.length:Int)))=(k == 5):=eq_of_beq hne2;cases h5:(k == 5);all_goals
  rw[h5]at hne3 hne4;clear hne hne2;go_enter func91,ntmps91;go_wp2_with fail
  go_loop [16] (λi=>∃j:Nat,i=.int .i64 (j:Int) /\ j<=bs.length /\ Hid (decide (bg bs ad j=0)=res)) (λi=>bs.length-(intOf i).toNat)
  case atStart=>exact⟨0,rfl,by omega,HR⟩
  case round =>
   obtain⟨j,rfl,hj,hl⟩:=hrel;by_cases hlt:j<bs.length
   ·obtain⟨x,hxk⟩:∃x,bs[j]?=some x:=⟨_,List.getElem?_eq_getElem hlt⟩;obtain⟨b,o,rfl,_,hcell⟩:=Ints.at BW hxk;have c0:=hcell j x hxk;have HT:Hid (bg bs ad j=if(decide (0<=x)&&decide (x<=15))&&!(x == ad)&&!((bs.take j).any (λy=>y == x))then bg bs ad (j+1)else 1):=ia hxk;have IA:Hid (∀w,CS 123 #[.int .i64 x] w (.bool (addrB x))):=λw=>nY x w;have CO:Hid (Cl 117 #[.slice (some ⟨b,o,none⟩) j cap,.int .i64 x] (w.alloc (.cells #[.string nm,k,ad,.int .u8 (pl:Int),.slice (some ⟨b,o,none⟩) bs.length cap,vr,vt] 70)) λe w'=>e=.returned (.bool ((bs.take j).any (λy=>y == x))) /\ w'=(w.alloc (.cells #[.string nm,k,ad,.int .u8 (pl:Int),.slice (some ⟨b,o,none⟩) bs.length cap,vr,vt] 70))):=xj _ j cap (bs.take j) x w.heap.size _ (SlAt.take BW j (by omega));have ea:(decide (0<=x)&&decide (x<=15))=addrB x:=by
     unfold addrB
     congr 1
     rw[decide_eq_decide];omega
    rw[ea]at HT;have k1:(0:Int)<=(j:Int):=by omega
    have k2:(j:Int)<(bs.length:Int):=by omega
    have k3:(j:Int)<=(cap:Int):=by omega
    obtain⟨_,q0,q1,q2,q3,q4,q5,q6⟩:=id V0;clear hxk hcell hB ea BW;generalize addrB x=x0 at *;generalize (bs.take j).any (λy=>y == x)=x2 at *;cases x0
    ·have HV:Hid (res=false):=by
      show _=_;rw[<- hl.out,HT.out];simp
     clear HT hl;go_wp2_with (go_at_call 123;refine(IA.out _).mono ?_;rintro e w'⟨rfl,rfl⟩);go_ret;exact⟨by rw[HV.out];rfl,D0⟩
    ·cases x1:(x == ad)
     ·cases x2
      ·have HV:Hid (decide (bg bs ad (j+1)=0)=res):=by
        show _=_;rw[<- hl.out,HT.out,x1];simp
       clear HT hl;go_wp2_with (first|(go_at_call 123;refine(IA.out _).mono ?_;rintro e w'⟨rfl,rfl⟩)|(go_at_call 117;refine CO.out.mono ?_;rintro e w'⟨rfl,rfl⟩))
       go_round
       case rel=>exact⟨j+1,by go_num,by omega,HV⟩
       case measure=>simp[intOf];omega
      ·have HV:Hid (res=false):=by
        show _=_;rw[<- hl.out,HT.out,x1];simp
       clear HT hl;go_wp2_with (first|(go_at_call 123;refine(IA.out _).mono ?_;rintro e w'⟨rfl,rfl⟩)|(go_at_call 117;refine CO.out.mono ?_;rintro e w'⟨rfl,rfl⟩));go_ret;exact⟨by rw[HV.out];rfl,D0⟩
     ·have HV:Hid (res=false):=by
       show _=_;rw[<- hl.out,HT.out,x1];simp
      clear HT hl;go_wp2_with (go_at_call 123;refine(IA.out _).mono ?_;rintro e w'⟨rfl,rfl⟩);go_ret;exact⟨by rw[HV.out];rfl,D0⟩
   ·have HV:Hid (res=true):=by
     show _=_;rw[<- hl.out,ky (by omega)];rfl
    go_wp2_with fail;go_ret;exact⟨by rw[HV.out];rfl,D0⟩
theorem xn(nm:ByteArray)(k ad:Int)(pl:Nat)(A:Option Addr)(cap:Nat)(bs:List Int)(vr vt:Value)(w:World)(hB:SlAt w w 1 IsI (.slice A bs.length cap) bs)(hcap:bs.length<=cap)(hmax:cap<=maxLen) :
  CB 91 #[cR nm k ad pl (.slice A bs.length cap) vr vt] w (.bool (backsF k ad bs)):=by
 unfold backsF;cases hne:(decide (0<bs.length) ==(k == 5))
 ·rw[Bool.false_and];have D0:=Below.alN (Below.refl w w) (.cells #[.string nm,k,ad,.int .u8 (pl:Int),.slice A bs.length cap,vr,vt] 70);have e1:decide (0<bs.length)=decide ((0:Int)<(bs.length:Int)):=by
   rw[decide_eq_decide];omega
  rw[e1]at hne;clear e1 hB hcap hmax;cases h5:(k == 5) <;> cases h0:decide ((0:Int)<(bs.length:Int))
  ·rw[h5,h0]at hne;cases hne
  ·clear hne;have n0:0<bs.length:=by simpa using h0
   go_enter func91,ntmps91;go_wp2_with fail;go_ret;exact⟨rfl,D0⟩
  ·clear hne;have n0:¬ 0<bs.length:=by simpa using h0
   go_enter func91,ntmps91;go_wp2_with fail;go_ret;exact⟨rfl,D0⟩
  ·rw[h5,h0]at hne;cases hne
 ·rw[Bool.true_and];exact xm nm k ad pl A cap bs vr vt _ w hB hcap hmax hne rfl
theorem xo(r s:Rt)(w:World):CB 127 #[rtw r.v r.b r.p,rtw s.v s.b s.p] w (.bool (sameA r s)):=by
 obtain⟨v,b,p⟩:=r;obtain⟨v',b',p'⟩:=s;unfold sameA;simp only;cases h:(v == v')
 ·go_enter func127,ntmps127;go_wp2_with fail;go_ret;exact⟨by simp,by go_grown⟩
 ·go_enter func127,ntmps127;go_wp2_with fail;go_ret;exact⟨by simp,by go_grown⟩
theorem xp(a r:Rt)(n0:Nat)(w:World)(hT:Three w n0 (.int .i64 r.v) (.int .i64 r.b) (.int .i64 r.p)) :
  CB 126 #[rtw a.v a.b a.p,.pointer n0] w (.bool (sameA a r)):=by
 have D0:=Below.al (Below.refl w w) (.cells #[a.v,a.b,a.p] 123);have T1:=vP hT (.cells #[a.v,a.b,a.p] 123);obtain⟨l0,g0,g1,g2⟩:=T1;obtain⟨_,q0,q1,q2⟩:=id hT;have SM:Hid (∀w,CB 127 #[rtw a.v a.b a.p,rtw r.v r.b r.p] w (.bool (sameA a r))):=λw=>xo a r w;have hn:=hT.1;clear hT;generalize sameA a r=x at *;generalize a.v=av at *;generalize a.b=ab at *;generalize a.p=ap at *;generalize r.v=rv at *;generalize r.b=rb at *;generalize r.p=rp at *;go_enter func126,ntmps126;go_wp2_with fail;refine(SM.out _).mono ?_;rintro e w1⟨rfl,hb1⟩;have D1:=chn hb1 D0;clear D0 hb1 g0 g1 g2 q0 q1 q2 SM;go_wp2_with fail;go_ret;exact⟨rfl,D1⟩
theorem xr{xs:List Rt}{k:Nat}{a r:Rt}(h:xs[k]?=some a):(xs.take (k+1)).any (λa=>sameA a r)=((xs.take k).any (λa=>sameA a r)||sameA a r):=by
 obtain⟨hk,e⟩:=List.getElem?_eq_some_iff.1 h;rw[List.take_succ_eq_append_getElem hk,e];simp
theorem xt{xs:List Rt}{k:Nat}{a r:Rt}(h:xs[k]?=some a)(hs:sameA a r=true):xs.any (λa=>sameA a r)=true :=
 List.any_eq_true.2 ⟨a,List.mem_of_getElem? h,hs⟩
theorem xu(b o cap n0:Nat)(xs:List Rt)(r:Rt)(w:World)(hb:b<w.heap.size)(hn:xs.length<=cap)(hcap:cap<=maxLen)(hr:Hid (TAt w b o xs))(hT:Hid (Three w n0 (.int .i64 r.v) (.int .i64 r.b) (.int .i64 r.p))) :
  Cl 157 #[.slice (some ⟨b,o,none⟩) xs.length cap,.func (.func 126) #[] #[.pointer n0]] w λe w'=>∃j:Int,e=.returned j /\ Hid (decide (0<=j)=xs.any (λa=>sameA a r)) /\ Below w w w':=by
 unfold maxLen at hcap;go_enter func157,ntmps157;go_wp2_with fail;go_loopw[8] (λi wr=>∃k:Nat,i=.int .i64 (k:Int) /\ k<=xs.length /\ Below w w wr /\ Hid ((xs.take k).any (λa=>sameA a r)=false)) (λi _=>xs.length-(intOf i).toNat)
 case atStart=>exact⟨0,rfl,by omega,Below.refl _ _,rfl⟩
 case round =>
  obtain⟨k,rfl,hk,D1,hno⟩:=hrel;by_cases hlt:k<xs.length
  ·obtain⟨a,hxk⟩:∃a,xs[k]?=some a:=⟨_,List.getElem?_eq_getElem hlt⟩;obtain⟨c0,c1,c2⟩:=(hr.out.below D1 hb).at hxk;have PR:Hid (CB 126 #[rtw a.v a.b a.p,.pointer n0] wr (.bool (sameA a r))):=xp a r n0 wr (dH D1 hT.out.1 hT.out);have HX:Hid (xs[k]?=some a):=hxk;clear hr hxk;cases hv:sameA a r
   ·rw[hv]at PR;have HV:Hid ((xs.take (k+1)).any (λa=>sameA a r)=false):=by show _=_;rw[xr HX.out,hno.out,hv];rfl
    clear hv hno HX hT;generalize a.v=av at *;generalize a.b=ab at *;generalize a.p=ap at *;go_wp2_with fail;refine PR.out.mono ?_;rintro e w2⟨rfl,hb2⟩;have D2:=chn hb2 D1;clear hb2 D1 c0 c1 c2 PR;go_wp2_with fail;go_roundw
    case rel=>exact⟨k+1,by go_num,by omega,D2,HV⟩
    case measure=>simp[intOf];omega
   ·rw[hv]at PR;have fin:Hid (xs.any (λa=>sameA a r)=true):=xt HX.out hv;clear hv hno HX hT;generalize a.v=av at *;generalize a.b=ab at *;generalize a.p=ap at *;go_wp2_with fail;refine PR.out.mono ?_;rintro e w2⟨rfl,hb2⟩;have D2:=chn hb2 D1;clear hb2 D1 c0 c1 c2 PR;go_wp2_with fail;go_ret;exact⟨_,rfl,(by show _=_;rw[fin.out];simp),D2⟩
  ·obtain rfl:k=xs.length:=by omega
   have fin:Hid (xs.any (λa=>sameA a r)=false):=by
    have:=hno.out;rw[List.take_length]at this;exact this
   go_wp2_with fail;go_ret;exact⟨_,rfl,(by show _=_;rw[fin.out];simp),D1⟩
theorem xv(b o cap n0:Nat)(xs:List Rt)(r:Rt)(w:World)(hb:b<w.heap.size)(hn:xs.length<=cap)(hcap:cap<=maxLen)(hr:Hid (TAt w b o xs))(hT:Hid (Three w n0 (.int .i64 r.v) (.int .i64 r.b) (.int .i64 r.p))) :
  CB 125 #[.slice (some ⟨b,o,none⟩) xs.length cap,.func (.func 126) #[] #[.pointer n0]] w (.bool (xs.any (λa=>sameA a r))):=by
 have IX:Hid (Cl 157 #[.slice (some ⟨b,o,none⟩) xs.length cap,.func (.func 126) #[] #[.pointer n0]] w λe w'=>∃j:Int,e=.returned j /\ Hid (decide (0<=j)=xs.any (λa=>sameA a r)) /\ Below w w w'):=xu b o cap n0 xs r w hb hn hcap hr hT;clear hr hT hn hcap hb;generalize xs.any (λa=>sameA a r)=x at *;generalize xs.length=n at *;go_enter func125,ntmps125;go_wp2_with fail;refine IX.out.mono ?_;rintro e w2⟨j,rfl,hj,hb2⟩;clear IX;go_wp2_with fail;go_ret;exact⟨by rw[hj.out];rfl,hb2⟩
theorem check_row(b o cap:Nat)(xs:List Rt)(w:World)(hb:b<w.heap.size)(hn:xs.length<=cap)(hcap:cap<=maxLen)(hr:Hid (TAt w b o xs))(h8:xs.length<=8) :
  CB 94 #[.slice (some ⟨b,o,none⟩) xs.length cap] w (.int .i64 (cQ xs 0)):=by
 have hcap':=hcap;unfold maxLen at hcap;have t8:decide ((8:Int)<(xs.length:Int))=false:=by simp;omega
 go_enter func94,ntmps94;go_wp2_with fail;go_loopw[10] (λi wr=>∃k:Nat,i=.int .i64 (k:Int) /\ k<=xs.length /\ Below w w wr /\ Hid (cQ xs 0=cQ xs k)) (λi _=>xs.length-(intOf i).toNat)
 case atStart=>exact⟨0,rfl,by omega,Below.refl _ _,rfl⟩
 case round =>
  obtain⟨k,rfl,hk,D1,hl⟩:=hrel;by_cases hlt:k<xs.length
  ·obtain⟨r,hxk⟩:∃r,xs[k]?=some r:=⟨_,List.getElem?_eq_getElem hlt⟩;obtain⟨c0,c1,c2⟩:=(hr.out.below D1 hb).at hxk;have hlen:(xs.take k).length=k:=by rw[List.length_take];omega
   have Hd:Hid (cQ xs k=if(if isR r then(if(xs.take k).any (λa=>sameA a r)then 5 else 0)else 1:Int)=0 then cQ xs (k+1)else(if isR r then(if(xs.take k).any (λa=>sameA a r)then 5 else 0)else 1:Int)):=vN hxk;have IS:Hid (∀w,CB 124 #[rtw r.v r.b r.p] w (.bool (isR r))):=λw=>mc r w;have CO:Hid (∀w',Below w w w'->Three w' wr.heap.size (.int .i64 r.v) (.int .i64 r.b) (.int .i64 r.p)->Cl 125 #[.slice (some ⟨b,o,none⟩) k cap,.func (.func 126) #[] #[.pointer (some ⟨wr,0,none⟩)]] w' λe w''=>e=.returned (.bool ((xs.take k).any (λa=>sameA a r))) /\ Below w' w' w''):=λw' hw hT=>by
    have:=xv b o cap wr.heap.size (xs.take k) r w' (Nat.lt_of_lt_of_le hb hw.size) (by omega) hcap' ((hr.out.below hw hb).take k) hT;rw[hlen]at this;exact this
   have D2:=Below.al D1 (.cells #[.int .i64 r.v,.int .i64 r.b,.int .i64 r.p] 123);have T2:=du wr (.int .i64 r.v) (.int .i64 r.b) (.int .i64 r.p) 123;have lw:=D1.size;clear hxk D1 hr hlen hcap';generalize isR r=x at *;generalize (xs.take k).any (λa=>sameA a r)=y at *;generalize r.v=rv0 at *;generalize r.b=rb0 at *;generalize r.p=rp0 at *;go_wp2_with fail;refine(IS.out _).mono ?_;rintro e w3⟨rfl,hb3⟩;have D3:=chn hb3 D2;have T3:=dH hb3 (by simp) T2;clear hb3 D2 T2 c0 c1 c2 IS;cases x
   ·go_wp2_with fail;go_ret;exact⟨by rw[hl.out,Hd.out];simp,D3⟩
   ·go_wp2_with fail;refine(CO.out _ D3 T3).mono ?_;rintro e w4⟨rfl,hb4⟩;have D4:=chn hb4 D3;clear hb4 D3 T3 CO;cases y
    ·go_wp2_with fail;go_roundw
     case rel=>exact⟨k+1,by go_num,by omega,D4,by show _=_;rw[hl.out,Hd.out];simp⟩
     case measure=>simp[intOf];omega
    ·go_wp2_with fail;go_ret;exact⟨by rw[hl.out,Hd.out];simp,D4⟩
  ·have fin:Hid (cQ xs 0=0):=by show _=_;rw[hl.out,jc (by omega)]
   go_wp2_with fail;go_ret;exact⟨by rw[fin.out];rfl,D1⟩
theorem xw(A:Option Addr)(cap:Nat)(w:World) :
  CB 94 #[.slice A 0 cap] w (.int .i64 0):=by
 go_enter func94,ntmps94;go_wp2_with fail;go_loopw[10] (λi wr=>i=.int .i64 0 /\ Below w w wr) (λi _=>0)
 case atStart=>exact⟨rfl,Below.refl _ _⟩
 case round =>
  obtain⟨rfl,D1⟩:=hrel;go_wp2_with fail;go_ret;exact⟨rfl,D1⟩
theorem xx(A:Option Addr)(n cap:Nat)(w:World)(h:8<n) :
  CB 94 #[.slice A n cap] w (.int .i64 2):=by
 have t8:decide ((8:Int)<(n:Int))=true:=by simp;omega
 go_enter func94,ntmps94;go_wp2_with fail;go_ret;exact⟨rfl,Below.refl _ _⟩
theorem oz{v:Value}{xs:List Rt}(w:World)(h:Routes w w v xs) :
  CB 94 #[v] w (.int .i64 (checkV xs)):=by
 obtain⟨A,cap,rfl,_,h1,h2,h3⟩:=h;unfold checkV;by_cases h8:8<xs.length
 ·rw[if_pos h8];exact xx A xs.length cap w h8
 ·rw[if_neg h8];by_cases hx:xs=[]
  ·subst hx;rw[jc (by simp)];exact xw A cap w
  ·obtain⟨b,o,rfl,hb,hr⟩:=h3 hx;exact check_row b o cap xs w hb h1 h2 hr (by omega)
def oA(k ad:Int)(pl:Nat)(bs:List Int)(nr nt:Nat)(c:Int):Int :=
 if(portsV k == 0)||!addrF k ad||!poolF k pl then 1 else if 3<bs.length then 2 else if !backsF k ad bs||!listsF k nr nt then 1 else if 8<nr then 2 else c
theorem xy(k ad:Int)(pl:Nat)(bs:List Int)(nr nt:Nat)(c:Int):oA k ad pl bs nr nt c=dw k ad pl bs nr nt c:=by
 have ea:addrB ad=(decide (0<=ad)&&decide (ad<=15)):=by
  unfold addrB
  congr 1
  rw[decide_eq_decide];omega
 have eb:decide (bg bs ad 0=0)=!decide (bg bs ad 0=1):=by
  rcases backsFrom_vals bs ad bs.length 0 (by omega)with h|h <;> rw[h] <;> rfl
 have ep:(!((pl:Int) == 0))=decide (0<pl):=by
  rw[Bool.eq_iff_iff];simp;omega
 have el:decide (0<bs.length)=!decide (bs.length=0):=by
  rw[Bool.eq_iff_iff];simp only[decide_eq_true_eq,Bool.not_eq_true',decide_eq_false_iff_not];omega
 have er:decide (nr=0)=!decide (0<nr):=by
  rw[Bool.eq_iff_iff];simp
 have et:decide (nt=0)=!decide (0<nt):=by
  rw[Bool.eq_iff_iff];simp
 unfold oA dw addrF poolF backsF listsF;rw[ea,eb,ep,el,er,et];have ek:(portsV k == 0)=!(decide (1<=k)&&decide (k<=5)):=by
  unfold portsV;rw[Bool.eq_iff_iff];simp only[beq_iff_eq,Bool.not_eq_true',Bool.and_eq_false_iff,decide_eq_false_iff_not]
  split
  ·omega
  ·split
   ·omega
   ·split <;> omega
 rw[ek];cases hk:(decide (1<=k)&&decide (k<=5))
 ·simp
 ·have hk':1<=k /\ k<=5:=by simpa using hk
  generalize (decide (0<=ad)&&decide (ad<=15))=x1;generalize decide (0<pl)=x2;generalize decide (bs.length=0)=x3;generalize decide (0<nr)=x5;generalize decide (0<nt)=x6;generalize (ad == 0)=x7;by_cases h4:bg bs ad 0=1;all_goals
   simp only[h4,decide_true,decide_false,if_true,if_false];have hkk:k=1\/k=2\/k=3\/k=4\/k=5:=by omega
   rcases hkk with rfl|rfl|rfl|rfl|rfl <;> simp only[hasAddr] <;> cases x1 <;> cases x2 <;> cases x3 <;> cases x5 <;> cases x6 <;> cases x7 <;> simp
def devTold(ahead:List Dv)(d:Dv):Int:=if nameOk d.name then(if ahead.any (λx=>x.name.toList == d.name.toList)then 5 else aE d)else 3
theorem xz(d:Dv)(vb vr vt:Value)(A:Option Addr)(n cap:Nat)(ahead:List Dv)(w:World)(hA:Devs w w (.slice A n cap) ahead)(hb:SlAt w w 1 IsI vb d.backs)(hr:SlAt w w 5 aY vr d.rules)(ht:SlAt w w 3 br vt d.routes) :
  CB 57 #[cR d.name d.kind d.addr d.pool vb vr vt,.slice A n cap] w (.int .i64 (devTold ahead d)):=by
 have FC:Hid (∀W,Below w w W->CB 94 #[vt] W (.int .i64 (checkV (d.routes.map rtOf)))):=λW h=>oz W (kD (SlAt.mono (SlAt.below ht h (λ_ _ _ h=>h)) h.size (λ_ _ _ h=>h)));have FI:Hid (∀W,Below w w W->CB 88 #[.slice A n cap,.string d.name] W (.tuple #[.int .i64 (if 0<=findFrom ahead d.name.toList 0 then findFrom ahead d.name.toList 0 else 0),.bool (ahead.any (λx=>x.name.toList == d.name.toList))])):=λW h=>by
  have:=wA A n cap ahead d.name W ((hA.below h).mono h.size);rw[wt]at this;exact this
 have hb0:=hb;obtain⟨Ab,cb,rfl,_,b1,b2,_⟩:=hb;obtain⟨Ar,cr,rfl,_,r1,r2,_⟩:=hr;obtain⟨At,ct,rfl,_,t1,t2,_⟩:=ht;have BF:Hid (∀W,Below w w W->CB 91 #[cR d.name d.kind d.addr d.pool (.slice Ab d.backs.length cb) (.slice Ar d.rules.length cr) (.slice At d.routes.length ct)] W (.bool (backsF d.kind d.addr d.backs))):=λW h=>xn _ _ _ _ _ _ _ _ _ W (SlAt.mono (SlAt.below hb0 h (λ_ _ _ h=>h)) h.size (λ_ _ _ h=>h)) b1 b2;have NM:Hid (∀w,CS 87 #[.string d.name] w (.bool (nameOk d.name))):=λw=>ws d.name w;have PO:Hid (∀w,CS 62 #[d.kind] w (.int .i64 (portsV d.kind))):=λw=>jd d.kind w;have AF:Hid (∀W,CB 89 #[cR d.name d.kind d.addr d.pool (.slice Ab d.backs.length cb) (.slice Ar d.rules.length cr) (.slice At d.routes.length ct)] W (.bool (addrF d.kind d.addr))):=λW=>vY _ _ _ _ _ _ _ W;have PF:Hid (∀W,CB 90 #[cR d.name d.kind d.addr d.pool (.slice Ab d.backs.length cb) (.slice Ar d.rules.length cr) (.slice At d.routes.length ct)] W (.bool (poolF d.kind d.pool))):=λW=>vZ _ _ _ _ _ _ _ W;have LF:Hid (∀W,CB 92 #[cR d.name d.kind d.addr d.pool (.slice Ab d.backs.length cb) (.slice Ar d.rules.length cr) (.slice At d.routes.length ct)] W (.bool (listsF d.kind d.rules.length d.routes.length))):=λW=>wg _ _ _ _ _ _ _ _ _ _ _ W;have AC:Hid (∀w,CS 93 #[.slice Ar d.rules.length cr] w (.int .i64 (if 8<d.rules.length then 2 else 0))):=λw=>wk _ _ _ w;generalize hres:devTold ahead d=res;have HR:Hid (res=if nameOk d.name then(if ahead.any (λx=>x.name.toList == d.name.toList)then 5 else if(portsV d.kind == 0)||!addrF d.kind d.addr||!poolF d.kind d.pool then 1 else if 3<d.backs.length then 2 else if !backsF d.kind d.addr d.backs||!listsF d.kind d.rules.length d.routes.length then 1 else if 8<d.rules.length then 2 else checkV (d.routes.map rtOf))else 3):=by
  show _=_;rw[<- hres];unfold devTold aE;rw[<- xy];rfl
 clear hres hA hb0;have D0:=Below.alN (Below.refl w w) (.cells #[.string d.name,d.kind,d.addr,.int .u8 (d.pool:Int),.slice Ab d.backs.length cb,.slice Ar d.rules.length cr,.slice At d.routes.length ct] 70);have V0:=kz w (.string d.name) (.int .i64 d.kind) (.int .i64 d.addr) (.int .u8 (d.pool:Int)) (.slice Ab d.backs.length cb) (.slice Ar d.rules.length cr) (.slice At d.routes.length ct) 70;generalize nameOk d.name=x0 at *;generalize ahead.any (λx=>x.name.toList == d.name.toList)=x1 at *;generalize (if 0<=findFrom ahead d.name.toList 0 then findFrom ahead d.name.toList 0 else 0)=fi at *;generalize portsV d.kind=pk at *;generalize addrF d.kind d.addr=x3 at *;generalize poolF d.kind d.pool=x4 at *;generalize backsF d.kind d.addr d.backs=x5 at *;generalize listsF d.kind d.rules.length d.routes.length=x6 at *;generalize checkV (d.routes.map rtOf)=cv at *;generalize d.backs.length=nb at *;generalize d.rules.length=nr at *;generalize d.routes.length=nt at *;generalize d.name=nm at *;generalize d.kind=kd at *;generalize d.addr=ad at *;generalize d.pool=pl at *;go_enter func57,ntmps57;go_wp2_with fail;refine(NM.out _).mono ?_;rintro e w'⟨rfl,rfl⟩;cases x0
 ·go_wp2_with fail;go_ret;exact⟨by rw[HR.out];rfl,D0⟩
 go_wp2_with fail;refine(FI.out _ D0).mono ?_;rintro e w1⟨rfl,hb1⟩;have D1:=aa hb1 D0;have V1:=V0.below hb1 V0.1;clear hb1 D0 V0 FI NM;obtain⟨l1,q0,q1,q2,q3,q4,q5,q6⟩:=id V1;cases x1
 ·go_wp2_with fail;refine(PO.out _).mono ?_;rintro e w2⟨rfl,rfl⟩;cases hpk:(pk == 0)
  ·go_wp2_with fail;refine(AF.out _).mono ?_;rintro e w3⟨rfl,hb3⟩;have D3:=aa hb3 D1;have V3:=V1.below hb3 V1.1;clear hb3 D1 V1 AF PO q0 q1 q2 q3 q4 q5 q6;obtain⟨l3,q0,q1,q2,q3,q4,q5,q6⟩:=id V3;cases x3
   ·go_wp2_with fail;go_ret;exact⟨by rw[HR.out,hpk];rfl,D3⟩
   go_wp2_with fail;refine(PF.out _).mono ?_;rintro e w4⟨rfl,hb4⟩;have D4:=aa hb4 D3;have V4:=V3.below hb4 V3.1;clear hb4 D3 V3 PF q0 q1 q2 q3 q4 q5 q6;obtain⟨l4,q0,q1,q2,q3,q4,q5,q6⟩:=id V4;cases x4
   ·go_wp2_with fail;go_ret;exact⟨by rw[HR.out,hpk];rfl,D4⟩
   by_cases n3:3<nb
   ·have u3:decide ((3:Int)<(nb:Int))=true:=by simp;omega
    have HV:Hid (res=2):=by show _=_;rw[HR.out,hpk];simp[n3]
    go_wp2_with fail;go_ret;exact⟨by rw[HV.out];rfl,D4⟩
   have u3:decide ((3:Int)<(nb:Int))=false:=by simp;omega
   have HR2:Hid (res=if !x5||!x6 then 1 else if 8<nr then 2 else cv):=by show _=_;rw[HR.out,hpk];simp[n3]
   clear HR hpk;go_wp2_with fail;refine(BF.out _ D4).mono ?_;rintro e w5⟨rfl,hb5⟩;have D5:=aa hb5 D4;have V5:=V4.below hb5 V4.1;clear hb5 D4 V4 BF q0 q1 q2 q3 q4 q5 q6;obtain⟨l5,q0,q1,q2,q3,q4,q5,q6⟩:=id V5;cases x5
   ·go_wp2_with fail;go_ret;exact⟨by rw[HR2.out];rfl,D5⟩
   go_wp2_with fail;refine(LF.out _).mono ?_;rintro e w6⟨rfl,hb6⟩;have D6:=aa hb6 D5;have V6:=V5.below hb6 V5.1;clear hb6 D5 V5 LF q0 q1 q2 q3 q4 q5 q6;obtain⟨l6,q0,q1,q2,q3,q4,q5,q6⟩:=id V6;cases x6
   ·go_wp2_with fail;go_ret;exact⟨by rw[HR2.out];rfl,D6⟩
   by_cases h8:8<nr
   ·have HV:Hid (res=2):=by show _=_;rw[HR2.out];simp[h8]
    rw[if_pos h8]at AC;go_wp2_with fail;refine(AC.out _).mono ?_;rintro e w7⟨rfl,rfl⟩;go_wp2_with fail;go_ret;exact⟨by rw[HV.out];rfl,D6⟩
   ·have HV:Hid (res=cv):=by show _=_;rw[HR2.out];simp[h8]
    rw[if_neg h8]at AC;go_wp2_with fail;refine(AC.out _).mono ?_;rintro e w7⟨rfl,rfl⟩;go_wp2_with fail;refine(FC.out _ D6).mono ?_;rintro e w8⟨rfl,hb8⟩;have D8:=aa hb8 D6;go_wp2_with fail;go_ret;exact⟨by rw[HV.out];rfl,D8⟩
  ·go_wp2_with fail;go_ret;exact⟨by rw[HR.out,hpk];rfl,D1⟩
 ·go_wp2_with fail;go_ret;exact⟨by rw[HR.out];rfl,D1⟩
theorem Seven.drew{w:World}{n:Nat}{a b c d e f g:Value}(h:Seven w n a b c d e f g):Seven w.drew n a b c d e f g:=h
theorem xA(A B:Option Addr)(cap e9:Nat)(ds:List Dv)(ls:List Lk)(res:Int)(w:World)(hD:Hid (Devs w w (.slice A ds.length cap) ds))(hL:Hid (Links w w (.slice B ls.length e9) ls))(h10:ds.length<=10)(h15:ls.length<=15)(HR:Hid (res=if bU ds 0=0 then cL ds ls 0 else bU ds 0)) :
  CB 25 #[.agg #[.slice A ds.length cap,.slice B ls.length e9]] w (.int .i64 res):=by
 obtain⟨_,hc,hm⟩:=hD.out.len;obtain⟨_,hc',hm'⟩:=hL.out.len;unfold maxLen at hm hm';have t10:decide ((10:Int)<(ds.length:Int))=false:=by simp;omega
 have t15:decide ((15:Int)<(ls.length:Int))=false:=by simp;omega
 have D0:=Below.alN (Below.refl w w) (.cells #[.slice A ds.length cap,.slice B ls.length e9] 25);have B0:=fB w (.slice A ds.length cap) (.slice B ls.length e9) 25;go_enter func25,ntmps25;go_wp2_with fail;go_loopw[21] (λi wr=>∃k:Nat,i=.int .i64 (k:Int) /\ k<=ds.length /\ Below w w wr /\ Box2 wr w.heap.size (.slice A ds.length cap) (.slice B ls.length e9) /\ Hid (bU ds 0=bU ds k)) (λi _=>ds.length-(intOf i).toNat)
 case atStart=>exact⟨0,rfl,by omega,D0,B0,rfl⟩
 case round =>
  clear D0 B0;obtain⟨k,rfl,hk,D1,B1,hl⟩:=hrel;by_cases hlt:k<ds.length
  ·obtain⟨d,hxk⟩:∃d,ds[k]?=some d:=⟨_,List.getElem?_eq_getElem hlt⟩;obtain⟨b,o,vb,vr,vt,rfl,hb,z1,z2,z3,c0,c1,c2,c3,c4,c5,c6⟩:=(hD.out.below D1).at hxk;obtain⟨Ab,cb,rfl,_,_,_,_⟩:=z1;obtain⟨Ar,cr,rfl,_,_,_,_⟩:=z2;obtain⟨At,ct,rfl,_,_,_,_⟩:=z3;have HF:Hid (bU ds k=if devTold (ds.take k) d=0 then bU ds (k+1)else devTold (ds.take k) d):=dL hxk;have CD:Hid (∀W,Below w w W->CB 57 #[cR d.name d.kind d.addr d.pool (.slice Ab d.backs.length cb) (.slice Ar d.rules.length cr) (.slice At d.routes.length ct),.slice (some ⟨b,o,none⟩) k cap] W (.int .i64 (devTold (ds.take k) d))):=λW h=>by
    have hd:=hD.out.below h;obtain⟨b',o',vb',vr',vt',e1,_,s1,s2,s3,q0,q1,q2,q3,q4,q5,q6⟩:=hd.at hxk;cases e1;have g4:=(D1.cell (p:=⟨b,o+k*7+4,none⟩) hb).symm.trans c4;have g5:=(D1.cell (p:=⟨b,o+k*7+5,none⟩) hb).symm.trans c5;have g6:=(D1.cell (p:=⟨b,o+k*7+6,none⟩) hb).symm.trans c6;have f4:=(h.cell (p:=⟨b,o+k*7+4,none⟩) hb).symm.trans q4;have f5:=(h.cell (p:=⟨b,o+k*7+5,none⟩) hb).symm.trans q5;have f6:=(h.cell (p:=⟨b,o+k*7+6,none⟩) hb).symm.trans q6;obtain rfl:=Option.some.inj (g4.symm.trans f4);obtain rfl:=Option.some.inj (g5.symm.trans f5);obtain rfl:=Option.some.inj (g6.symm.trans f6);exact xz d _ _ _ _ k cap (ds.take k) W (Devs.mono (SlAt.take hd k (by omega)) h.size) (SlAt.mono s1 h.size (λ_ _ _ h=>h)) (SlAt.mono s2 h.size (λ_ _ _ h=>h)) (SlAt.mono s3 h.size (λ_ _ _ h=>h))
   have k1:(0:Int)<=(k:Int):=by omega
   have k2:(k:Int)<(ds.length:Int):=by omega
   have k3:(k:Int)<=(cap:Int):=by omega
   have lw:=D1.size;clear hxk;generalize devTold (ds.take k) d=dv at *;generalize d.backs.length=nb at *;generalize d.rules.length=nr at *;generalize d.routes.length=nt at *;generalize d.name=nm at *;generalize d.kind=kd at *;generalize d.addr=ad at *;generalize d.pool=pl at *;have D2:=Below.alN D1 (.cells #[.string nm,kd,ad,.int .u8 (pl:Int),.slice Ab nb cb,.slice Ar nr cr,.slice At nt ct] 70);have B2:=B1.alloc (.cells #[.string nm,kd,ad,.int .u8 (pl:Int),.slice Ab nb cb,.slice Ar nr cr,.slice At nt ct] 70);have V2:=kz wr (.string nm) (.int .i64 kd) (.int .i64 ad) (.int .u8 (pl:Int)) (.slice Ab nb cb) (.slice Ar nr cr) (.slice At nt ct) 70;have D3:=D2.drew;obtain⟨_,f0,f1,_⟩:=id B2;obtain⟨_,v0,v1,v2,v3,v4,v5,v6⟩:=id V2;clear hD hL;go_wp2_with fail;go_region_held3 (λw'=>w'.cell? ⟨w,0,none⟩=some (.slice (some ⟨b,o,none⟩) ds.length cap) /\ w'.cell? ⟨wr,0,none⟩=some (.string nm) /\ w'.cell? ⟨wr,1,none⟩=some (.int .i64 kd) /\ w'.cell? ⟨wr,2,none⟩=some (.int .i64 ad) /\ w'.cell? ⟨wr,3,none⟩=some (.int .u8 (pl:Int)) /\ w'.cell? ⟨wr,4,none⟩=some (.slice Ab nb cb) /\ w'.cell? ⟨wr,5,none⟩=some (.slice Ar nr cr) /\ w'.cell? ⟨wr,6,none⟩=some (.slice At nt ct)) (go_keep) ((go_at_call 57;refine(CD.out _ D3).mono ?_;rintro e w2⟨rfl,hb2⟩;have D4:=aa hb2 D3;have B4:=B2.drew.below hb2 B2.1;have V4:=V2.drew.below hb2 V2.1;obtain⟨_,p0,p1,_⟩:=id B4;obtain⟨_,r0,r1,r2,r3,r4,r5,r6⟩:=id V4))
   clear c0 c1 c2 c3 c4 c5 c6 f0 f1 v0 v1 v2 v3 v4 v5 v6 D1 D2 D3 B1 B2 V2 hb2 CD;cases h0:(dv == 0)
   ·have HV:Hid (res=dv):=by
     have hne:¬dv=0:=by simpa using h0
     show _=_;rw[HR.out,hl.out,HF.out,if_neg hne,if_neg hne]
    go_wp2_with fail;go_ret;exact⟨by rw[HV.out];rfl,D4⟩
   ·have HV:Hid (bU ds 0=bU ds (k+1)):=by
     have he:dv=0:=by simpa using h0
     show _=_;rw[hl.out,HF.out,if_pos he]
    go_wp2_with fail;go_roundw
    case rel=>exact⟨k+1,by go_num,by omega,D4,B4,HV⟩
    case measure=>simp[intOf];omega
  ·have HZ:Hid (res=cL ds ls 0):=by
    show _=_;rw[HR.out,hl.out,kA (by omega),if_pos rfl]
   clear hl HR;obtain⟨_,g0,g1,_⟩:=id B1;go_wp2_with fail;go_loopw[39] (λi wr=>∃k:Nat,i=.int .i64 (k:Int) /\ k<=ls.length /\ Below w w wr /\ Box2 wr w.heap.size (.slice A ds.length cap) (.slice B ls.length e9) /\ Hid (res=cL ds ls k)) (λi _=>ls.length-(intOf i).toNat)
   case atStart=>exact⟨0,rfl,by omega,D1,B1,HZ⟩
   case round =>
    clear D1 B1 HZ g0 g1;obtain⟨j,rfl,hj,D1,B1,hl⟩:=hrel;by_cases hjl:j<ls.length
    ·obtain⟨l,hxk⟩:∃l,ls[j]?=some l:=⟨_,List.getElem?_eq_getElem hjl⟩;have HF:Hid (cL ds ls j=if linkTold ds (ls.take j) l=0 then cL ds ls (j+1)else linkTold ds (ls.take j) l):=fZ hxk;have HX:Hid (ls[j]?=some l):=hxk;have CD:Hid (∀W,Below w w W->CB 58 #[.agg #[.slice A ds.length cap,.slice B ls.length e9],(j:Int)] W (.int .i64 (linkTold ds (ls.take j) l))):=λW h=>sg A B cap e9 ds ls j l W HX ((hD.out.below h).mono h.size) ((hL.out.below h).mono h.size);have lw:=D1.size;obtain⟨_,g0,g1,_⟩:=id B1;clear hxk HX hD hL;generalize linkTold ds (ls.take j) l=dv at *;go_wp2_with fail;refine(CD.out _ D1).mono ?_;rintro e w2⟨rfl,hb2⟩;have D4:=aa hb2 D1;have B4:=B1.below hb2 B1.1;clear D1 B1 hb2 CD g0 g1;cases h0:(dv == 0)
     ·have HV:Hid (res=dv):=by
       have hne:¬dv=0:=by simpa using h0
       show _=_;rw[hl.out,HF.out,if_neg hne]
      go_wp2_with fail;go_ret;exact⟨by rw[HV.out];rfl,D4⟩
     ·have HV:Hid (res=cL ds ls (j+1)):=by
       have he:dv=0:=by simpa using h0
       show _=_;rw[hl.out,HF.out,if_pos he]
      go_wp2_with fail;go_roundw
      case rel=>exact⟨j+1,by go_num,by omega,D4,B4,HV⟩
      case measure=>simp[intOf];omega
    ·have HV:Hid (res=0):=by
      show _=_;rw[hl.out,kB (by omega)]
     go_wp2_with fail;go_ret;exact⟨by rw[HV.out];rfl,D1⟩
theorem kH(vd vl:Value)(ds:List Dv)(ls:List Lk)(w:World)(hD:Devs w w vd ds)(hL:Links w w vl ls) :
  CB 25 #[.agg #[vd,vl]] w (.int .i64 (netV ds ls)):=by
 have hD0:=hD;have hL0:=hL;obtain⟨A,cap,rfl,_,_,_,_⟩:=hD;obtain⟨B,e9,rfl,_,_,_,_⟩:=hL;unfold netV;by_cases h:10<ds.length\/15<ls.length
 ·rw[if_pos h];have D0:=Below.alN (Below.refl w w) (.cells #[.slice A ds.length cap,.slice B ls.length e9] 25);clear hD0 hL0;by_cases h10:10<ds.length
  ·have t10:decide ((10:Int)<(ds.length:Int))=true:=by simp;omega
   clear h;go_enter func25,ntmps25;go_wp2_with fail;go_ret;exact⟨rfl,D0⟩
  ·have t10:decide ((10:Int)<(ds.length:Int))=false:=by simp;omega
   have t15:decide ((15:Int)<(ls.length:Int))=true:=by simp;omega
   clear h;go_enter func25,ntmps25;go_wp2_with fail;go_ret;exact⟨rfl,D0⟩
 ·rw[if_neg h];exact xA A B cap e9 ds ls _ w hD0 hL0 (by omega) (by omega) rfl
end Go.Proofs.YtjmclcmgpaofiaaGreat
namespace Go.Proofs.YtjmclcmgpaofiaaGreat
open Tryz
open Go.RowKit Go.Maps
theorem oB{ds:List Dv}:∀(m k:Nat),ds.length-k<=m->bU ds k=0->∀j d,k<=j->ds[j]?=some d->bE ds j d=0
 | 0,k,h,_,j,d,hj,hd=>by
   have:=(List.getElem?_eq_some_iff.1 hd).1;omega
 | m+1,k,h,h0,j,d,hj,hd=>by
   have hjl:=(List.getElem?_eq_some_iff.1 hd).1;have hk:k<ds.length:=by omega
   rw[dL (List.getElem?_eq_getElem hk)]at h0
   split at h0
   ·rename_i hw
    by_cases e:j=k
    ·subst e;rw[List.getElem?_eq_getElem hk,Option.some.injEq]at hd;rw[<- hd];exact hw
    ·exact oB m (k+1) (by omega) h0 j d (by omega) hd
   ·rename_i hw
    exact absurd h0 hw
theorem ij{ds:List Dv}{ls:List Lk}(h:netV ds ls=0):∀d∈ds,aE d=0:=by
 intro d hd;obtain⟨k,hk,e⟩:=List.mem_iff_getElem.1 hd;unfold netV at h
 split at h
 ·simp at h
 ·split at h
  ·rename_i hz
   have:=oB ds.length 0 (by omega) hz k d (Nat.zero_le _) (by rw[List.getElem?_eq_getElem hk,e]);unfold bE at this
   split at this
   ·split at this
    ·simp at this
    ·exact this
   ·simp at this
  ·rename_i hz
   exact absurd h hz
theorem ik{d:Dv}(h:aE d=0):d.backs.length<=3 /\ d.rules.length<=8 /\ d.routes.length<=8 /\ aj d.addr:=by
 unfold aE dw at h
 split at h
 ·simp at h
 split at h
 ·simp at h
 rename_i h1 h2
 split at h
 ·simp at h
 rename_i h3
 split at h
 ·simp at h
 split at h
 ·simp at h
 split at h
 ·simp at h
 split at h
 ·simp at h
 rename_i h8
 have hr:d.routes.length<=8:=by
  unfold checkV at h
  split at h
  ·simp at h
  ·rename_i h9
   simpa using h9
 refine⟨by omega,by omega,hr,?_⟩;have ha:(hasAddr d.kind=true /\ 0<=d.addr /\ d.addr<=15)\/d.addr=0:=by
  cases hk:hasAddr d.kind
  ·rw[hk]at h2;simp at h2;exact .inr h2.1
  ·rw[hk]at h2;simp at h2;exact .inl ⟨rfl,by omega,by omega⟩
 rcases ha with⟨_,a,b⟩|a
 ·exact cN (by omega) (by omega)
 ·exact cN (by omega) (by omega)
theorem oC{ds:List Dv}{ls:List Lk}(h:netV ds ls=0):Small ds ls:=by
 obtain⟨h1,h2,_⟩:=bi h;exact⟨by omega,by omega,λd hd=>by have:=ik (ij h d hd);omega,λd hd=>by have:=ik (ij h d hd);omega,λd hd=>by have:=ik (ij h d hd);omega⟩
theorem xB{ds:List Dv}{ls:List Lk}(h:netV ds ls=0):kG ds:=λd hd=>(ik (ij h d hd)).2.2.2
def noM:Mnd:=⟨λ_=>none,λ_=>none,λ_=>none⟩
def oD(w:World)(ds:List Dv)(ls:List Lk)(e:Ending)(w':World):Prop :=
 Below w w w' /\ ((netV ds ls≠0 /\ e=.returned (.tuple #[.pointer none,(netV ds ls)])) \/
  (netV ds ls=0 /\ ∃m:Mp,e=.returned (.tuple #[.pointer (some ⟨m.B,m.z,none⟩),.int .i64 0]) /\ MemAt w' m ds ls 0 noM /\ w.heap.size<=m.f /\ w.heap.size<=m.o /\ w.heap.size<=m.k /\ w.heap.size<=m.B /\ m.z=0 /\ m.pre=[] /\ m.post=[]))
theorem MapAt.alloc{k e:TypeId}{α β:Type}{E:KeyEncW k α}{V:ElEnc e β}{w:World}{b n:Nat}{f:α->Option β}(h:MapAt E V w b n f)(o:Obj):MapAt E V (w.alloc o) b n f:=h.same (Below.heap_alloc w o b h.lt)
theorem kI{k e:TypeId}{α β:Type}(E:KeyEncW k α)(V:ElEnc e β)(w:World)(b:Nat)(h:b=w.heap.size):MapAt E V (w.alloc (.map #[] 0)) b 0 (λ_=>none):=by
 subst h;exact lN E V w
theorem xC{w:World}{A B:Option Addr}{cap e9:Nat}{ds:List Dv}{ls:List Lk}(hD:Devs w w (.slice A ds.length cap) ds)(hL:Links w w (.slice B ls.length e9) ls) :
  MemAt ((((w.alloc (.map #[] 0)).alloc (.map #[] 0)).alloc (.map #[] 0)).alloc (.cells #[.slice A ds.length cap,.slice B ls.length e9,.map (some w.heap.size),.map (some (w.heap.size+1)),.map (some (w.heap.size+1+1))] 107)) ⟨0,[],[],107,w.heap.size+1+1+1,w.heap.size,w.heap.size+1,w.heap.size+1+1,A,cap,B,e9⟩ ds ls 0 noM:=by
 have hb:=Below.alN (Below.alN (Below.alN (Below.alN (Below.refl w w) (.map #[] 0)) (.map #[] 0)) (.map #[] 0)) (.cells #[.slice A ds.length cap,.slice B ls.length e9,.map (some w.heap.size),.map (some (w.heap.size+1)),.map (some (w.heap.size+1+1))] 107);refine⟨⟨ax _ _ _ _ (by simp),rfl⟩,(hD.below hb).mono hb.size,(hL.below hb).mono hb.size,(((kI eQ cO w _ rfl).alloc _).alloc _).alloc _,((kI jQ jS _ _ (by simp)).alloc _).alloc _,(kI eQ jR _ _ (by simp)).alloc _,?_,?_,?_⟩
 ·show w.heap.size≠w.heap.size+1;omega
 ·show w.heap.size≠w.heap.size+1+1;omega
 ·show w.heap.size+1≠w.heap.size+1+1;omega
theorem xD(A B:Option Addr)(cap e9:Nat)(ds:List Dv)(ls:List Lk)(w:World)(hD:Hid (Devs w w (.slice A ds.length cap) ds))(hL:Hid (Links w w (.slice B ls.length e9) ls)) :
  Cl 35 #[.agg #[.slice A ds.length cap,.slice B ls.length e9]] w (oD w ds ls):=by
 have CK:Hid (∀W,Below w w W->CB 25 #[.agg #[.slice A ds.length cap,.slice B ls.length e9]] W (.int .i64 (netV ds ls))):=λW h=>kH _ _ ds ls W ((hD.out.below h).mono h.size) ((hL.out.below h).mono h.size);have CP:Hid (netV ds ls=0->∀W,Below w w W->Cl 36 #[.agg #[.slice A ds.length cap,.slice B ls.length e9]] W (lJ W ds ls)):=λhz W h=>qB A B cap e9 ds ls W ((hD.out.below h).mono h.size) ((hL.out.below h).mono h.size) (oC hz);have D0:=Below.alN (Below.refl w w) (.cells #[.slice A ds.length cap,.slice B ls.length e9] 25);have N0:=ah w #[.slice A ds.length cap,.slice B ls.length e9] 25;clear hD hL;go_enter func35,ntmps35;go_wp2_with fail;refine(CK.out _ D0).mono ?_;rintro e w1⟨rfl,hb1⟩;have D1:=aa hb1 D0;have N1:=N0.keep hb1;clear hb1 D0 N0 CK;obtain⟨n0,n1⟩:=N1.two;by_cases hz:netV ds ls=0
 rotate_left
 ·have hz1:(netV ds ls == 0)=false:=by simpa using hz
  have HZ:Hid (netV ds ls≠0):=hz;clear hz CP;go_wp2_with fail;go_ret2;exact⟨D1,.inl ⟨HZ.out,rfl⟩⟩
 have CP2:Hid _:=CP.out hz;have HZ:Hid (netV ds ls=0):=hz;rw[hz];clear hz CP;go_wp2_with fail;refine(CP2.out _ D1).mono ?_;rintro e w2⟨A2,q2,B2,q3,rfl,hD2,hL2,hb2⟩;have D2:=aa hb2 D1;have z2:=D2.size;have M5:=xC hD2 hL2;have D6:=Below.alN (Below.alN (Below.alN (Below.alN D2 (.map #[] 0)) (.map #[] 0)) (.map #[] 0)) (.cells #[.slice A2 ds.length q2,.slice B2 ls.length q3,.map (some w2.heap.size),.map (some (w2.heap.size+1)),.map (some (w2.heap.size+1+1))] 107);clear hb2 D1 N1 n0 n1 hD2 hL2 CP2;have hmm:=@run_makeMap prog;go_wp2_with fail;go_ret2;exact⟨D6,.inr ⟨HZ.out,_,rfl,M5,by show w.heap.size<=w2.heap.size;omega,by show w.heap.size<=w2.heap.size+1;omega,by show w.heap.size<=w2.heap.size+1+1;omega,by show w.heap.size<=w2.heap.size+1+1+1;omega,rfl,rfl,rfl⟩⟩
theorem kJ{P:Program}{w w':World}{ops:Array Oper}{rest:List Oper}{o:Oper}{a:Act}{Q:Exit->Act->World->Prop}(hgd:o.guard=none)(s x:Operand)(t k:TypeId)
  (ho:o.op=.call { callee:=.builtin .delete,args:=#[s,x],argTypes:=#[t,k] }) {v x' v':Value} (hs:a.eval s=v) (hx:a.eval x=x') (hr:(Builtin.delete_ #[t,k] o.type #[v,x']).run P w=.ok v' w')
  (h:wpList P ops Q rest (a.put o.dst v') w'):wpList P ops Q (o::rest) a w:=by
 refine wpList_plain hgd λK hK=>?_;unfold Oper.wp execOp;simp only[ho,resolve,invoke,builtin,Sem.run_bind,Sem.run_pure,Result.andThen_ok,List.map_toArray,List.map_cons,List.map_nil,hs,hx,hr];exact hK _ _ h
structure FR where
 err:Int
 M:Mnd
open Classical in
noncomputable def forgetP (ds:List Dv)(M:Mnd)(i:Int)(p:Pk)(port:Int):FR :=
 if 0<=i /\ i<(ds.length:Int)then
  (if aW ds i=3 then(if(M.fl (i,p)).isSome then⟨0,{ M with fl:=cG M.fl (i,p) }⟩else⟨7,M⟩)
  else if aW ds i=4 then(if(M.ow (i,port)).isSome then⟨0,{ M with ow:=cG M.ow (i,port) }⟩else⟨7,M⟩)
  else if aW ds i=5 then(if(M.bk (i,p)).isSome then⟨0,{ M with bk:=cG M.bk (i,p) }⟩else⟨7,M⟩)
  else⟨4,M⟩)
 else⟨4,M⟩
def de(m:Mp)(ds:List Dv)(ls:List Lk)(n:Nat)(w:World)(f:FR)(e:Ending)(w':World):Prop :=
 e=.returned f.err /\ MemAt w' m ds ls n f.M /\ HK m w w'
theorem xE(m:Mp)(ds:List Dv)(ls:List Lk)(n:Nat)(M:Mnd)(i:Int)(p:Pk)(w:World)(hM:Hid (MemAt w m ds ls n M))(hi:aj i)(hp:p.ok) :
  Cl 76 #[.map (some m.f),.agg #[i,p.s,p.d,p.sp,p.dp]] w (de m ds ls n w (if(M.fl (i,p)).isSome then⟨0,{ M with fl:=cG M.fl (i,p) }⟩else⟨7,M⟩)):=by
 have M1:=hM.out.alloc (.cells #[i,p.s,p.d,p.sp,p.dp] 175);have D1:=Below.alN (Below.refl w w) (.cells #[i,p.s,p.d,p.sp,p.dp] 175);have lk:=M1.lookF hi hp;generalize hx:(M.fl (i,p)).isSome=x0 at *;have M2:=M1.alloc (.cells #[] 111);have D2:=Below.alN D1 (.cells #[] 111);obtain⟨w',hr,hm,ht⟩:=M2.fl.drop uMf (x:=(i,p)) ⟨hi,hp⟩ 0;obtain⟨M3,K3⟩:=M2.turnF (Nat.le_refl _) hm ht;have K4:HK m w w':=(HK.of_below D2).trans K3;have hr':(Builtin.delete_ #[103,175] 0 #[.map (some m.f),.agg #[i,p.s,p.d,p.sp,p.dp]]).run prog ((w.alloc (.cells #[i,p.s,p.d,p.sp,p.dp] 175)).alloc (.cells #[] 111))=.ok (.tuple #[]) w':=hr;clear hr hm ht K3 M1 hx D1;cases x0
 ·go_enter func76,ntmps76;go_wp2_with fail;go_ret;exact⟨rfl,M2,HK.of_below D2⟩
 ·go_enter func76,ntmps76;go_wp2_with (at_builtin;refine kJ rfl _ _ 103 175 rfl rfl rfl hr' ?_);go_ret;exact⟨rfl,M3,K4⟩
theorem xF(m:Mp)(ds:List Dv)(ls:List Lk)(n:Nat)(M:Mnd)(i k:Int)(w:World)(hM:Hid (MemAt w m ds ls n M))(hi:aj i)(hk:aj k) :
  Cl 77 #[.map (some m.o),.agg #[i,k]] w (de m ds ls n w (if(M.ow (i,k)).isSome then⟨0,{ M with ow:=cG M.ow (i,k) }⟩else⟨7,M⟩)):=by
 have M1:=hM.out.alloc (.cells #[i,k] 178);have D1:=Below.alN (Below.refl w w) (.cells #[i,k] 178);have lk:=M1.lookO hi hk;generalize hx:(M.ow (i,k)).isSome=x0 at *;generalize ((M.ow (i,k)).getD (0,0)).1=ea at *;generalize ((M.ow (i,k)).getD (0,0)).2=eb at *;have M2:=M1.alloc (.cells #[ea,eb] 180);have D2:=Below.alN D1 (.cells #[ea,eb] 180);obtain⟨w',hr,hm,ht⟩:=M2.ow.drop uMo (x:=(i,k)) ⟨hi,hk⟩ 0;obtain⟨M3,K3⟩:=M2.turnO (Nat.le_refl _) hm ht;have K4:HK m w w':=(HK.of_below D2).trans K3;have hr':(Builtin.delete_ #[104,178] 0 #[.map (some m.o),.agg #[i,k]]).run prog ((w.alloc (.cells #[i,k] 178)).alloc (.cells #[ea,eb] 180))=.ok (.tuple #[]) w':=hr;clear hr hm ht K3 M1 hx D1;cases x0
 ·go_enter func77,ntmps77;go_wp2_with fail;go_ret;exact⟨rfl,M2,HK.of_below D2⟩
 ·go_enter func77,ntmps77;go_wp2_with (at_builtin;refine kJ rfl _ _ 104 178 rfl rfl rfl hr' ?_);go_ret;exact⟨rfl,M3,K4⟩
theorem xG(m:Mp)(ds:List Dv)(ls:List Lk)(n:Nat)(M:Mnd)(i:Int)(p:Pk)(w:World)(hM:Hid (MemAt w m ds ls n M))(hi:aj i)(hp:p.ok) :
  Cl 78 #[.map (some m.k),.agg #[i,p.s,p.d,p.sp,p.dp]] w (de m ds ls n w (if(M.bk (i,p)).isSome then⟨0,{ M with bk:=cG M.bk (i,p) }⟩else⟨7,M⟩)):=by
 have M1:=hM.out.alloc (.cells #[i,p.s,p.d,p.sp,p.dp] 175);have D1:=Below.alN (Below.refl w w) (.cells #[i,p.s,p.d,p.sp,p.dp] 175);have lk:=M1.lookB hi hp;generalize hx:(M.bk (i,p)).isSome=x0 at *;generalize (M.bk (i,p)).getD 0=ea at *;have M2:=M1;have D2:=D1;obtain⟨w',hr,hm,ht⟩:=M2.bk.drop uMk (x:=(i,p)) ⟨hi,hp⟩ 0;obtain⟨M3,K3⟩:=M2.turnK (Nat.le_refl _) hm ht;have K4:HK m w w':=(HK.of_below D2).trans K3;have hr':(Builtin.delete_ #[105,175] 0 #[.map (some m.k),.agg #[i,p.s,p.d,p.sp,p.dp]]).run prog ((w.alloc (.cells #[i,p.s,p.d,p.sp,p.dp] 175)))=.ok (.tuple #[]) w':=hr;clear hr hm ht K3 hx;cases x0
 ·go_enter func78,ntmps78;go_wp2_with fail;go_ret;exact⟨rfl,M2,HK.of_below D2⟩
 ·go_enter func78,ntmps78;go_wp2_with (at_builtin;refine kJ rfl _ _ 105 175 rfl rfl rfl hr' ?_);go_ret;exact⟨rfl,M3,K4⟩
theorem xH(m:Mp)(ds:List Dv)(ls:List Lk)(n:Nat)(M:Mnd)(i:Int)(p:Pk)(port:Int)(w:World)(hM:Hid (MemAt w m ds ls n M))(h:¬(0<=i /\ i<(ds.length:Int))) :
  Cl 39 #[.pointer (some ⟨m.B,m.z,none⟩),i,pkV p,port] w (de m ds ls n w ⟨4,M⟩):=by
 have M1:=hM.out.alloc (pkC p);have D1:=Below.alN (Below.refl w w) (pkC p);have P1:=ah w #[p.s,p.d,p.sp,p.dp] 37;obtain⟨q0,_,_,_,_⟩:=M1.cells;obtain⟨s,dd,sp,dp⟩:=p;by_cases h0:0<=i
 ·have u0:decide (i<0)=false:=by simp;omega
  have u1:decide ((ds.length:Int)<=i)=true:=by simp;omega
  clear h h0;go_enter func39,ntmps39;go_wp2_with fail;go_ret;exact⟨rfl,M1,HK.of_below D1⟩
 ·have u0:decide (i<0)=true:=by simp;omega
  clear h h0;go_enter func39,ntmps39;go_wp2_with fail;go_ret;exact⟨rfl,M1,HK.of_below D1⟩
theorem xI(m:Mp)(ds:List Dv)(ls:List Lk)(n:Nat)(M:Mnd)(i:Nat)(d:Dv)(p:Pk)(port:Int)(w:World)(hM:Hid (MemAt w m ds ls n M))(hx:Hid (ds[i]?=some d))(hk:d.kind=3)(r:FR)
  (DR:Hid (∀W,MemAt W m ds ls n M->Cl 76 #[.map (some m.f),.agg #[(i:Int),p.s,p.d,p.sp,p.dp]] W (de m ds ls n W r))) :
  Cl 39 #[.pointer (some ⟨m.B,m.z,none⟩),(i:Int),pkV p,port] w (de m ds ls n w r):=by
 have M1:=hM.out.alloc (pkC p);have D1:=Below.alN (Below.refl w w) (pkC p);have P1:=ah w #[p.s,p.d,p.sp,p.dp] 37;obtain⟨q0,_,q2,q3,q4⟩:=M1.cells;obtain⟨b,o,vb,vr,vt,eA,HD,k1,k2⟩:=M1.dev hx.out;rw[eA]at q0;obtain⟨c0,c1,c2,c3,c4,c5,c6,s1,s2,s3⟩:=HD;have u0:decide ((i:Int)<0)=false:=by simp
 have u1:decide ((ds.length:Int)<=(i:Int))=false:=by simp;omega
 clear hM hx eA s1 s2 s3 c0 c2 c3 c4 c5 c6;rw[hk]at c1;obtain⟨p0,p1,p2,p3,_⟩:=P1.four;have M1d:=M1.drew;obtain⟨s,dd,sp,dp⟩:=p;simp only at *;have Q:(w.alloc (pkC ⟨s,dd,sp,dp⟩)).drew.cell? ⟨m.B,m.z+2,none⟩=some (.map (some m.f)):=q2;have P0:(w.alloc (pkC ⟨s,dd,sp,dp⟩)).drew.cell? ⟨w,0,none⟩=some (.int .i64 s):=p0;have P1':(w.alloc (pkC ⟨s,dd,sp,dp⟩)).drew.cell? ⟨w,1,none⟩=some (.int .i64 dd):=p1;have P2:(w.alloc (pkC ⟨s,dd,sp,dp⟩)).drew.cell? ⟨w,2,none⟩=some (.int .i64 sp):=p2;have P3:(w.alloc (pkC ⟨s,dd,sp,dp⟩)).drew.cell? ⟨w,3,none⟩=some (.int .i64 dp):=p3;go_enter func39,ntmps39;go_wp2_with fail;go_region_held3 (λw'=>w'.cell? ⟨m.B,m.z+2,none⟩=some (.map (some m.f)) /\ w'.cell? ⟨w,0,none⟩=some (.int .i64 s) /\ w'.cell? ⟨w,1,none⟩=some (.int .i64 dd) /\ w'.cell? ⟨w,2,none⟩=some (.int .i64 sp) /\ w'.cell? ⟨w,3,none⟩=some (.int .i64 dp)) (go_keep) ((go_at_call 76;refine(DR.out _ M1d).mono ?_;rintro e w5⟨rfl,M5,K5⟩;have g0:=(M1d.ck K5).cell Q;have g1:=(M1d.ck K5).cell P0;have g2:=(M1d.ck K5).cell P1';have g3:=(M1d.ck K5).cell P2;have g4:=(M1d.ck K5).cell P3))
 go_wp2_with fail;go_ret;exact⟨rfl,M5,(HK.of_below D1.drew).trans K5⟩
theorem xJ(m:Mp)(ds:List Dv)(ls:List Lk)(n:Nat)(M:Mnd)(i:Nat)(d:Dv)(p:Pk)(port:Int)(w:World)(hM:Hid (MemAt w m ds ls n M))(hx:Hid (ds[i]?=some d))(hk:d.kind=5)(r:FR)
  (DR:Hid (∀W,MemAt W m ds ls n M->Cl 78 #[.map (some m.k),.agg #[(i:Int),p.s,p.d,p.sp,p.dp]] W (de m ds ls n W r))) :
  Cl 39 #[.pointer (some ⟨m.B,m.z,none⟩),(i:Int),pkV p,port] w (de m ds ls n w r):=by
 have M1:=hM.out.alloc (pkC p);have D1:=Below.alN (Below.refl w w) (pkC p);have P1:=ah w #[p.s,p.d,p.sp,p.dp] 37;obtain⟨q0,_,q2,q3,q4⟩:=M1.cells;obtain⟨b,o,vb,vr,vt,eA,HD,k1,k2⟩:=M1.dev hx.out;rw[eA]at q0;obtain⟨c0,c1,c2,c3,c4,c5,c6,s1,s2,s3⟩:=HD;have u0:decide ((i:Int)<0)=false:=by simp
 have u1:decide ((ds.length:Int)<=(i:Int))=false:=by simp;omega
 clear hM hx eA s1 s2 s3 c0 c2 c3 c4 c5 c6;rw[hk]at c1;obtain⟨p0,p1,p2,p3,_⟩:=P1.four;have M1d:=M1.drew;obtain⟨s,dd,sp,dp⟩:=p;simp only at *;have Q:(w.alloc (pkC ⟨s,dd,sp,dp⟩)).drew.cell? ⟨m.B,m.z+4,none⟩=some (.map (some m.k)):=q4;have P0:(w.alloc (pkC ⟨s,dd,sp,dp⟩)).drew.cell? ⟨w,0,none⟩=some (.int .i64 s):=p0;have P1':(w.alloc (pkC ⟨s,dd,sp,dp⟩)).drew.cell? ⟨w,1,none⟩=some (.int .i64 dd):=p1;have P2:(w.alloc (pkC ⟨s,dd,sp,dp⟩)).drew.cell? ⟨w,2,none⟩=some (.int .i64 sp):=p2;have P3:(w.alloc (pkC ⟨s,dd,sp,dp⟩)).drew.cell? ⟨w,3,none⟩=some (.int .i64 dp):=p3;go_enter func39,ntmps39;go_wp2_with fail;go_region_held3 (λw'=>w'.cell? ⟨m.B,m.z+4,none⟩=some (.map (some m.k)) /\ w'.cell? ⟨w,0,none⟩=some (.int .i64 s) /\ w'.cell? ⟨w,1,none⟩=some (.int .i64 dd) /\ w'.cell? ⟨w,2,none⟩=some (.int .i64 sp) /\ w'.cell? ⟨w,3,none⟩=some (.int .i64 dp)) (go_keep) ((go_at_call 78;refine(DR.out _ M1d).mono ?_;rintro e w5⟨rfl,M5,K5⟩;have g0:=(M1d.ck K5).cell Q;have g1:=(M1d.ck K5).cell P0;have g2:=(M1d.ck K5).cell P1';have g3:=(M1d.ck K5).cell P2;have g4:=(M1d.ck K5).cell P3))
 go_wp2_with fail;go_ret;exact⟨rfl,M5,(HK.of_below D1.drew).trans K5⟩
theorem xK(m:Mp)(ds:List Dv)(ls:List Lk)(n:Nat)(M:Mnd)(i:Nat)(d:Dv)(p:Pk)(port:Int)(w:World)(hM:Hid (MemAt w m ds ls n M))(hx:Hid (ds[i]?=some d))(hk:d.kind=4)(r:FR)
  (DR:Hid (∀W,MemAt W m ds ls n M->Cl 77 #[.map (some m.o),.agg #[(i:Int),port]] W (de m ds ls n W r))) :
  Cl 39 #[.pointer (some ⟨m.B,m.z,none⟩),(i:Int),pkV p,port] w (de m ds ls n w r):=by
 have M1:=hM.out.alloc (pkC p);have D1:=Below.alN (Below.refl w w) (pkC p);have P1:=ah w #[p.s,p.d,p.sp,p.dp] 37;obtain⟨q0,_,q2,q3,q4⟩:=M1.cells;obtain⟨b,o,vb,vr,vt,eA,HD,k1,k2⟩:=M1.dev hx.out;rw[eA]at q0;obtain⟨c0,c1,c2,c3,c4,c5,c6,s1,s2,s3⟩:=HD;have u0:decide ((i:Int)<0)=false:=by simp
 have u1:decide ((ds.length:Int)<=(i:Int))=false:=by simp;omega
 clear hM hx eA s1 s2 s3 c0 c2 c3 c4 c5 c6;rw[hk]at c1;obtain⟨s,dd,sp,dp⟩:=p;go_enter func39,ntmps39;go_wp2_with fail;refine(DR.out _ M1).mono ?_;rintro e w5⟨rfl,M5,K5⟩;go_wp2_with fail;go_ret;exact⟨rfl,M5,(HK.of_below D1).trans K5⟩
theorem forget_no(m:Mp)(ds:List Dv)(ls:List Lk)(n:Nat)(M:Mnd)(i:Nat)(d:Dv)(p:Pk)(port:Int)(w:World)(hM:Hid (MemAt w m ds ls n M))(hx:Hid (ds[i]?=some d))(hk:¬(d.kind=3\/d.kind=4\/d.kind=5)) :
  Cl 39 #[.pointer (some ⟨m.B,m.z,none⟩),(i:Int),pkV p,port] w (de m ds ls n w ⟨4,M⟩):=by
 have M1:=hM.out.alloc (pkC p);have D1:=Below.alN (Below.refl w w) (pkC p);have P1:=ah w #[p.s,p.d,p.sp,p.dp] 37;obtain⟨q0,_,q2,q3,q4⟩:=M1.cells;obtain⟨b,o,vb,vr,vt,eA,HD,k1,k2⟩:=M1.dev hx.out;rw[eA]at q0;obtain⟨c0,c1,c2,c3,c4,c5,c6,s1,s2,s3⟩:=HD;have u0:decide ((i:Int)<0)=false:=by simp
 have u1:decide ((ds.length:Int)<=(i:Int))=false:=by simp;omega
 clear hM hx eA s1 s2 s3 c0 c2 c3 c4 c5 c6;have kk3:(d.kind == 3)=false:=by simp;omega
 have kk4:(d.kind == 4)=false:=by simp;omega
 have kk5:(d.kind == 5)=false:=by simp;omega
 clear hk;generalize d.kind=kd at *;obtain⟨s,dd,sp,dp⟩:=p;go_enter func39,ntmps39;go_wp2_with fail;go_ret;exact⟨rfl,M1,HK.of_below D1⟩
theorem xL(m:Mp)(ds:List Dv)(ls:List Lk)(n:Nat)(M:Mnd)(i:Int)(p:Pk)(port:Int)(w:World)(hM:MemAt w m ds ls n M)(hi:aj i)(hp:p.ok)(hq:aj port) :
  Cl 39 #[.pointer (some ⟨m.B,m.z,none⟩),i,pkV p,port] w (de m ds ls n w (forgetP ds M i p port)):=by
 unfold forgetP;by_cases h:0<=i /\ i<(ds.length:Int)
 rotate_left
 ·rw[if_neg h];exact xH m ds ls n M i p port w hM h
 rw[if_pos h];obtain⟨k,rfl⟩:∃k:Nat,i=(k:Int):=⟨i.toNat,by omega⟩;have hk:k<ds.length:=by omega
 obtain⟨d,hd⟩:∃d,ds[k]?=some d:=⟨_,List.getElem?_eq_getElem hk⟩;have ek:aW ds (k:Int)=d.kind:=by
  unfold aW;rw[Int.toNat_natCast,hd];rfl
 rw[ek];by_cases k3:d.kind=3
 ·rw[if_pos k3];exact xI m ds ls n M k d p port w hM hd k3 _ (λW h=>xE m ds ls n M k p W h hi hp)
 rw[if_neg k3];by_cases k4:d.kind=4
 ·rw[if_pos k4];exact xK m ds ls n M k d p port w hM hd k4 _ (λW h=>xF m ds ls n M k port W h hi hq)
 rw[if_neg k4];by_cases k5:d.kind=5
 ·rw[if_pos k5];exact xJ m ds ls n M k d p port w hM hd k5 _ (λW h=>xG m ds ls n M k p W h hi hp)
 rw[if_neg k5];exact forget_no m ds ls n M k d p port w hM hd (by omega)
end Go.Proofs.YtjmclcmgpaofiaaGreat
