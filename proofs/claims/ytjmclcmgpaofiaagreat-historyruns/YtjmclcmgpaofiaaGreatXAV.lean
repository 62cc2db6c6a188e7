/-
  XAV.
-/
import Derived.Test.YtjmclcmgpaofiaaGreatXLy
import Derived.Test.YtjmclcmgpaofiaaGreatXAU
import Derived.Test.YtjmclcmgpaofiaaGreatXAQ
import Derived.Test.YtjmclcmgpaofiaaGreatXAP
import Derived.Test.YtjmclcmgpaofiaaGreatXAS
import Derived.Test.YtjmclcmgpaofiaaGreatXAR
set_option maxHeartbeats 8000000
set_option maxRecDepth 100000
namespace Go.Proofs.YtjmclcmgpaofiaaGreat
open Tryz
open Go.RowKit Go.Maps
theorem wH{ds:List Dv}{ls:List Lk}{K:Nat}{x:Arv}(hz:netV ds ls=0)(hx:0<=rdF ds ls K x):cK x:=by
 obtain⟨j,_,_,hp,hs,_⟩:=fS hx;obtain⟨a,b⟩:=nF (bi hz).1 (kW hz j hp hs);exact⟨a,b,bm hp⟩
theorem wI{w0:World}{p:Wp}{T:Nat}{A L:Option Addr}{cap e9 R:Nat}{a7:Int}{ds:List Dv}{ls:List Lk}{K:Nat}(x:Arv)(hz:netV ds ls=0)(hI:Closed ds ls (ay ds ls K))(hx:0<=rdF ds ls K x)(hm:a7<=2000)(IH:Hid (∀y,0<=rdF ds ls K y->rdF ds ls K y<rdF ds ls K x->BrC w0 p T (.slice A ds.length cap) (.slice L ls.length e9) (.pointer R) a7 ds ls K y))(hD:Hid (Devs w0 w0 (.slice A ds.length cap) ds))(hL:Hid (Links w0 w0 (.slice L ls.length e9) ls))(hF:Hid (FstC R (rdF ds ls K) w0))(hR:Hid (RdC R (rdF ds ls K) w0)):BrC w0 p T (.slice A ds.length cap) (.slice L ls.length e9) (.pointer R) a7 ds ls K x:=by
 intro w S cS n M ar v evs h hs ha hn he;obtain⟨i,d,o,hC⟩:=sW hz hx;have hok:=wH hz hx;have D1:=Below.alN (Below.refl w w) (.cells #[x.1.1,x.1.2,x.2.s,x.2.d,x.2.sp,x.2.dp] 59);have h1:=h.below D1;have X1:=ah w #[x.1.1,x.1.2,x.2.s,x.2.d,x.2.sp,x.2.dp] 59;have HAS:Hid (∀W,WlAt W p S cS ds ls n M ar->CB 11 #[.pointer (some ⟨p.B,0,none⟩),plA x.1.1 x.1.2,pkV x.2] W (.bool (inF ar x).isSome)):=λW hw=>gZ x W (hidOf hw) hok;have CAU:Hid (∀W,Below w0 w0 W->Cl 111 #[fdV A ds.length cap L ls.length e9 R,arV x.1 x.2] W λe w'=>(∃u c,e=.returned (.tuple #[u,.bool true]) /\ Hid (EvRow W w' u c /\ CzOk d i o x (rdF ds ls K) c)) /\ Below W W w'):=λW hb=>sN A L cap e9 R i ds ls d o (rdF ds ls K) x W hC.dv (eI hz d (List.mem_of_getElem? hC.dv)) hC.port hC.pk hC.few ((hD.out.below hb).mono hb.size) ((hL.out.below hb).mono hb.size) (hF.out.below hb) (hR.out.below hb) hC.back hC.came;have FIN0:Hid (x∈ar->∀W,Tl w0 W p T (.slice A ds.length cap) (.slice L ls.length e9) (.pointer R) a7 S cS ds ls n M ar v evs 0->Below w w W->∃n' M' ar' evs' err',TOut w0 w p T (.slice A ds.length cap) (.slice L ls.length e9) (.pointer R) a7 S v ds ls n' M' ar' evs' err' W /\ Hid (BrR a7 ds ls K x M ar evs n' M' ar' evs' err')):=λhin W hW hb=>⟨n,M,ar,evs,0,hW.out hb (Nat.le_refl _),Or.inr ⟨rfl,[],by simp,⟨rfl,hs,hin,λy hy=>Or.inl hy,Or.inl hin⟩,by have:=iG (rdF ds ls K x);simp;omega,ha,hn,he⟩⟩;have HS:Hid (∀{W:World},Tl w0 W p T (.slice A ds.length cap) (.slice L ls.length e9) (.pointer R) a7 S cS ds ls n M ar v evs 0->Bk W w.heap.size #[x.1.1,x.1.2,x.2.s,x.2.d,x.2.sp,x.2.dp] 59->W.cell? ⟨T,6,none⟩=some (.int .i64 0) /\ W.cell? ⟨T,4,none⟩=some (.pointer (some ⟨p.B,0,none⟩)) /\ W.cell? ⟨T,0,none⟩=some (.slice A ds.length cap) /\ W.cell? ⟨T,1,none⟩=some (.slice L ls.length e9) /\ W.cell? ⟨T,2,none⟩=some (.pointer R) /\ W.cell? ⟨w,0,none⟩=some (.int .i64 x.1.1) /\ W.cell? ⟨w,1,none⟩=some (.int .i64 x.1.2) /\ W.cell? ⟨w,2,none⟩=some (.int .i64 x.2.s) /\ W.cell? ⟨w,3,none⟩=some (.int .i64 x.2.d) /\ W.cell? ⟨w,4,none⟩=some (.int .i64 x.2.sp) /\ W.cell? ⟨w,5,none⟩=some (.int .i64 x.2.dp)):=λ{W} h g=>⟨h.bk.at 6,h.bk.at 4,h.bk.at 0,h.bk.at 1,h.bk.at 2,g.at 0,g.at 1,g.at 2,g.at 3,g.at 4,g.at 5⟩;have KO:Hid (∀{W W':World} {B e size n:Nat} {u:Value} {xs:List Value},TFr p T S v W W'->W.ownsRow B e size u n xs->w.heap.size<=B->W'.ownsRow B e size u n xs):=λ{W W' B e size n u xs} g ho hB=>dF ho (λb hb=>by
  obtain⟨hl,hg,_⟩:=cg ho hb;obtain⟨l1,l2,l3,l4⟩:=h.wl.lo;have hT:=h.bk.lt;have hbt:=h.bt;refine g.block b hl (by omega) (by omega) (by omega) (by omega) (by omega) (by omega) (λa ha e=>?_) (λe=>?_)
  ·have:=(h.wl.sblk a ha).2;omega
  ·have:=(cg h.row e).1;omega)
 obtain⟨hb,hin⟩:∃hb,(inF ar x).isSome=hb:=⟨_,rfl⟩;rw[hin]at HAS;have hin':Hid (hb=true ↔ x∈ar):=by
  show _ ↔ _;rw[<- hin];exact inF_in
 have DN:Hid (∀{W:World},Tl w0 W p T (.slice A ds.length cap) (.slice L ls.length e9) (.pointer R) a7 S cS ds ls n M ar v evs 0->WlAt W p S cS ds ls n M ar):=λ{W} h=>h.wl;have t6:=h1.bk.at 6;have HC:=hidOf hC;have HI:=hidOf hI;have HSI:=hidOf hs;obtain⟨⟨xi,xq⟩,⟨xs,xd,xsp,xdp⟩⟩:=x;dsimp only at *;clear h hx hok hC hI hs hD hL hF hR hin;go_enter func71,ntmps71;go_wp2_with fail;refine wp_region_held_drew (S:=λW=>W.cell? ⟨T,6,none⟩=some (.int .i64 0) /\ W.cell? ⟨T,4,none⟩=some (.pointer (some ⟨p.B,0,none⟩)) /\ W.cell? ⟨T,0,none⟩=some (.slice A ds.length cap) /\ W.cell? ⟨T,1,none⟩=some (.slice L ls.length e9) /\ W.cell? ⟨T,2,none⟩=some (.pointer R) /\ W.cell? ⟨w,0,none⟩=some (.int .i64 xi) /\ W.cell? ⟨w,1,none⟩=some (.int .i64 xq) /\ W.cell? ⟨w,2,none⟩=some (.int .i64 xs) /\ W.cell? ⟨w,3,none⟩=some (.int .i64 xd) /\ W.cell? ⟨w,4,none⟩=some (.int .i64 xsp) /\ W.cell? ⟨w,5,none⟩=some (.int .i64 xdp)) (by rfl) (HS.out h1.drew X1.drew) (λhHeld=>?_);try simp only[ly]
 refine tk 0 ?_;try simp only[ly]
 refine tk 1 ?_;try simp only[ly]
 refine tk 2 ?_;try simp only[ly]
 refine tk 3 ?_;try simp only[ly]
 refine tk 4 ?_;try simp only[ly]
 try simp only[bne,Bool.not_false,Bool.not_true,BEq.rfl]
 refine tk 5 ?_;try simp only[ly]
 try simp only[bne,Bool.not_false,Bool.not_true,BEq.rfl]
 refine tk 6 ?_;try simp only[ly]
 refine tk 7 ?_;try simp only[ly]
 refine tk 8 ?_;try simp only[ly]
 refine tk 9 ?_;try simp only[ly]
 refine tk 10 ?_;try simp only[ly]
 refine tk 11 ?_;try simp only[ly]
 refine tk 12 ?_;try simp only[ly]
 refine tk 13 ?_;try simp only[ly]
 refine rd 14 (λK hK=>?_);go_simp;with_reducible refine(HAS.out _ h1.drew.wl).mono ?_
 rintro e w2⟨rfl,hb2⟩;have D2:=ag hb2 D1.drew;have h2:=h1.drew.below hb2;have X2:=Bk.keep hb2 X1.drew;dsimp only;clear hHeld;refine hK.out _ _ (HS.out h2 X2) (λhHeld=>?_);clear hK K;try simp only[ly]
 refine tk 15 ?_;try simp only[ly]
 refine wpAnyH_done (by kernel_rfl) ?_ _;clear hHeld HAS h1 X1 D1 hb2 t6;cases hb with
 | true =>
   have fin:=FIN0.out (hin'.out.1 rfl) _ h2 D2;clear FIN0 IH CAU HS HC HI HSI DN hin' h2 X2 D2;go_wp2_with fail;first
    | (go_end0;exact⟨rfl,fin⟩)
    | exact bodyPost_ret (results_none rfl _ _ _) rfl ⟨rfl,fin⟩
    | (trace_state;fail)
 | false =>
   have hno:Hid (¬(((xi,xq),⟨xs,xd,xsp,xdp⟩):Arv)∈ar):=λh=>by
    have:=hin'.out.2 h;cases this
   clear FIN0 hin';go_wp2_with fail;refine wp_region_held_drew (S:=λW=>W.cell? ⟨T,6,none⟩=some (.int .i64 0) /\ W.cell? ⟨T,4,none⟩=some (.pointer (some ⟨p.B,0,none⟩)) /\ W.cell? ⟨T,0,none⟩=some (.slice A ds.length cap) /\ W.cell? ⟨T,1,none⟩=some (.slice L ls.length e9) /\ W.cell? ⟨T,2,none⟩=some (.pointer R) /\ W.cell? ⟨w,0,none⟩=some (.int .i64 xi) /\ W.cell? ⟨w,1,none⟩=some (.int .i64 xq) /\ W.cell? ⟨w,2,none⟩=some (.int .i64 xs) /\ W.cell? ⟨w,3,none⟩=some (.int .i64 xd) /\ W.cell? ⟨w,4,none⟩=some (.int .i64 xsp) /\ W.cell? ⟨w,5,none⟩=some (.int .i64 xdp)) (by rfl) (HS.out h2.drew X2.drew) (λhHeld=>?_);try simp only[ly]
   refine tk 0 ?_;try simp only[ly]
   refine tk 1 ?_;try simp only[ly]
   refine tk 2 ?_;try simp only[ly]
   refine tk 3 ?_;try simp only[ly]
   refine tk 4 ?_;try simp only[ly]
   refine rd 5 (λK hK=>?_);go_simp;with_reducible refine(CAU.out _ h2.drew.dn).mono ?_
   rintro e w3⟨⟨u,c,rfl,hU⟩,hb3⟩;have D3:=ag hb3 D2.drew;have h3:=h2.drew.below hb3;have X3:=Bk.keep hb3 X2.drew;have hU3:=own_lo hU.out.1 (Nat.le_trans (Nat.le_refl _) D2.drew.size);have hCz:=hidOf hU.out.2;obtain⟨C,cc,rfl⟩:=dh hU3;dsimp only;clear hHeld;refine hK.out _ _ (HS.out h3 X3) (λhHeld=>?_);clear hK K;try simp only[ly]
   refine tk 6 ?_;try simp only[ly]
   refine tk 7 ?_;try simp only[ly]
   refine tk 8 ?_;try simp only[ly]
   refine tk 9 ?_;try simp only[ly]
   refine tk 10 ?_;try simp only[ly]
   refine wpAnyH_done (by kernel_rfl) ?_ _;clear hHeld CAU HS h2 X2 D2 hb3 hU X3;have hc20:=hCz.out.len;go_wp2_with fail;refine(sY C cc c w3 (hidOf (EvRow.sl hU3)) (by omega)).mono ?_;rintro e w4⟨A4,c4,rfl,hN4,hb4⟩;have D4:=ag hb4 D3;have h4:=h3.below hb4;have hU4:EvRow w w4 (.slice C c.length cc) c:=EvRow.below hU3 hb4;have hN4:=hidOf (own_lo hN4.out D3.size);have hU4:=hidOf hU4;obtain⟨B1,hB0,hB1,hB2⟩:=tg hCz.out;have NBS:=hidOf hB1;have hn2:=hCz.out.is.needs_few;have ST:Hid (TOut w0 w4 p T (.slice A ds.length cap) (.slice L ls.length e9) (.pointer R) a7 S v ds ls n M ar evs 0 w4 /\ NB a7 ds ls K B1 ((xi,xq),⟨xs,xd,xsp,xdp⟩) M ar evs (ai c) 0 n M ar evs 0):=⟨h4.out (Below.refl _ _) (Nat.le_refl _),te HSI.out ha hn he⟩;clear h3 hU3 hb4 D3 hB1 h4;go_wp2_with fail;go_loopw[43] (λs43 wr=>∃k:Nat,s43=.int .i64 (k:Int) /\ k<=(ai c).length /\ ∃n' M' ar' evs' err',Hid (TOut w0 w4 p T (.slice A ds.length cap) (.slice L ls.length e9) (.pointer R) a7 S v ds ls n' M' ar' evs' err' wr /\ NB a7 ds ls K B1 ((xi,xq),⟨xs,xd,xsp,xdp⟩) M ar evs (ai c) k n' M' ar' evs' err')) (λs43 _=>(ai c).length-(intOf s43).toNat)
   case atStart=>exact⟨0,rfl,by omega,n,M,ar,evs,0,ST⟩
   case round =>
    clear ST;obtain⟨k,rfl,hk,n',M',ar',evs',err',hT⟩:=hrel;obtain⟨⟨S1,cS1,v1,TL,TF,TS,TO⟩,hNB⟩:=hT.out;by_cases hkl:k<(ai c).length
    ·obtain⟨y,hy⟩:∃y,(ai c)[k]?=some y:=⟨_,List.getElem?_eq_getElem hkl⟩;have hNr:=KO.out TF hN4.out (Nat.le_refl _);obtain⟨b,o2,rfl,e0,e1,e2,e3,e4,e5⟩:=SlAt.arvC (kl (λ_=>rfl) (λ_=>rfl) hNr) hy;have k1:(0:Int)<=(k:Int):=by omega
     have k2:(k:Int)<((ai c).length:Int):=by omega
     have DA:Below wr wr (wr.alloc (.cells #[.int .i64 y.1.1,.int .i64 y.1.2,.int .i64 y.2.s,.int .i64 y.2.d,.int .i64 y.2.sp,.int .i64 y.2.dp] 59)):=Below.alN (Below.refl _ _) _;have TL2:=TL.below DA;have BC:Hid (Cl 71 #[.pointer T,arV y.1 y.2] (wr.alloc (.cells #[.int .i64 y.1.1,.int .i64 y.1.2,.int .i64 y.2.s,.int .i64 y.2.d,.int .i64 y.2.sp,.int .i64 y.2.dp] 59)) λe w'=>e=.returned (.tuple #[]) /\ ∃n2 M2 ar2 evs2 err2,Hid (TOut w0 w4 p T (.slice A ds.length cap) (.slice L ls.length e9) (.pointer R) a7 S v ds ls n2 M2 ar2 evs2 err2 w' /\ NB a7 ds ls K B1 ((xi,xq),⟨xs,xd,xsp,xdp⟩) M ar evs (ai c) (k+1) n2 M2 ar2 evs2 err2)):=by
      have J:∀{n2 M2 ar2 evs2 err2 w'},TOut w0 (wr.alloc (.cells #[.int .i64 y.1.1,.int .i64 y.1.2,.int .i64 y.2.s,.int .i64 y.2.d,.int .i64 y.2.sp,.int .i64 y.2.dp] 59)) p T (.slice A ds.length cap) (.slice L ls.length e9) (.pointer R) a7 S1 v1 ds ls n2 M2 ar2 evs2 err2 w'->TOut w0 w4 p T (.slice A ds.length cap) (.slice L ls.length e9) (.pointer R) a7 S v ds ls n2 M2 ar2 evs2 err2 w':=λg=>TOut.from TF TS TO (TOut.fromB DA g)
      by_cases he0:err'=0
      ·subst he0;rcases hNB with⟨h0,_⟩|⟨_,l,q1,q2,q3,q4,q5,q6,q7,q8,q9⟩
       ·exact absurd h0 (by decide)
       have hyf:=hCz.out.few y (List.mem_of_getElem? hy);refine(IH.out y hyf.1 hyf.2 _ S1 cS1 n' M' ar' v1 evs' TL2 q3 q7 q8 q9).mono ?_;rintro e w'⟨rfl,n2,M2,ar2,evs2,err2,g1,g2⟩;exact⟨rfl,n2,M2,ar2,evs2,err2,J g1,nb_step hz HI.out hy hyf.2 (NBS.out y (List.mem_of_getElem? hy)) (Or.inr ⟨rfl,l,q1,q2,q3,q4,q5,q6,q7,q8,q9⟩) g2.out⟩
      ·refine(bring_no y _ (hidOf TL2) he0).mono ?_;rintro e w'⟨rfl,g1⟩;exact⟨rfl,n',M',ar',evs',err',J g1,nb_err hB0 hNB he0⟩
     obtain⟨⟨yi,yq⟩,⟨ys,yd,ysp,ydp⟩⟩:=y;dsimp only at e0 e1 e2 e3 e4 e5 BC;clear IH hT TL TF TS TO hNB hNr TL2 DA hy KO HC HI HSI hCz hno hN4 hU4 NBS DN hB0 hB2;go_wp2_with fail;refine BC.out.mono ?_;rintro e w6⟨rfl,n2,M2,ar2,evs2,err2,hT2⟩;clear BC e0 e1 e2 e3 e4 e5;go_wp2_with fail;go_roundw
     case rel=>exact⟨k+1,by go_num,by omega,n2,M2,ar2,evs2,err2,hT2⟩
     case measure=>simp[intOf];omega
    ·obtain rfl:k=(ai c).length:=by omega
     obtain⟨Z,hZ0,hZ⟩:=z_ex hz HI.out hm HC.out hCz.out hno.out hB2 hNB;have hZ:=hidOf hZ;have ST:Hid (TOut w0 w4 p T (.slice A ds.length cap) (.slice L ls.length e9) (.pointer R) a7 S v ds ls n' M' ar' evs' err' wr /\ Z 0 n' M' ar' evs' err'):=⟨hT.out.1,hZ0⟩;clear IH hT hNB TL TF TS TO hN4 NBS hB0 hB2 hZ0 HC HI HSI hno hCz DN;go_wp2_with fail;go_loopw[53] (λs53 wr=>∃k:Nat,s53=.int .i64 (k:Int) /\ k<=c.length /\ ∃n' M' ar' evs' err',Hid (TOut w0 w4 p T (.slice A ds.length cap) (.slice L ls.length e9) (.pointer R) a7 S v ds ls n' M' ar' evs' err' wr /\ Z k n' M' ar' evs' err')) (λs53 _=>c.length-(intOf s53).toNat)
     case atStart=>exact⟨0,rfl,by omega,n',M',ar',evs',err',ST⟩
     case round =>
      clear ST;obtain⟨k,rfl,hk,n',M',ar',evs',err',hT⟩:=hrel;obtain⟨⟨S1,cS1,v1,TL,TF,TS,TO⟩,hZk⟩:=hT.out;by_cases hkl:k<c.length
      ·obtain⟨y,hy⟩:∃y,c[k]?=some y:=⟨_,List.getElem?_eq_getElem hkl⟩;have hUr:=KO.out TF hU4.out (Nat.le_refl _);obtain⟨b,o2,rfl,_,e0,e1,e2,e3,e4,e5,e6,e7⟩:=SlAt.ev (EvRow.sl hUr) hy;have k1:(0:Int)<=(k:Int):=by omega
       have k2:(k:Int)<(c.length:Int):=by omega
       have DA:Below wr wr (wr.alloc (.cells #[.int .i64 y.k,.int .i64 y.i,.int .i64 y.q,.int .i64 y.p.s,.int .i64 y.p.d,.int .i64 y.p.sp,.int .i64 y.p.dp,.int .i64 y.c] 47)):=Below.alN (Below.refl _ _) _;have TL2:=TL.below DA;have BC:Hid (Cl 113 #[.pointer T,evV y] (wr.alloc (.cells #[.int .i64 y.k,.int .i64 y.i,.int .i64 y.q,.int .i64 y.p.s,.int .i64 y.p.d,.int .i64 y.p.sp,.int .i64 y.p.dp,.int .i64 y.c] 47)) λe w'=>e=.returned (.tuple #[]) /\ ∃n2 M2 ar2 evs2 err2,Hid (TOut w0 w4 p T (.slice A ds.length cap) (.slice L ls.length e9) (.pointer R) a7 S v ds ls n2 M2 ar2 evs2 err2 w' /\ Z (k+1) n2 M2 ar2 evs2 err2)):=by
        have J:∀{n2 M2 ar2 evs2 err2 w'},TOut w0 (wr.alloc (.cells #[.int .i64 y.k,.int .i64 y.i,.int .i64 y.q,.int .i64 y.p.s,.int .i64 y.p.d,.int .i64 y.p.sp,.int .i64 y.p.dp,.int .i64 y.c] 47)) p T (.slice A ds.length cap) (.slice L ls.length e9) (.pointer R) a7 S1 v1 ds ls n2 M2 ar2 evs2 err2 w'->TOut w0 w4 p T (.slice A ds.length cap) (.slice L ls.length e9) (.pointer R) a7 S v ds ls n2 M2 ar2 evs2 err2 w':=λg=>TOut.from TF TS TO (TOut.fromB DA g)
        by_cases he0:err'=0
        ·subst he0;obtain⟨z1,z2,z3,z4,z5,z6⟩:=hZ.out.ok hy hZk;refine(sP y _ (hidOf TL2) z1 hz z2 z3 z4 z5).mono ?_;rintro e w'⟨rfl,g1⟩;exact⟨rfl,_,_,_,_,_,J g1,z6⟩
        ·refine(tell_no y _ (hidOf TL2) he0).mono ?_;rintro e w'⟨rfl,g1⟩;exact⟨rfl,n',M',ar',evs',err',J g1,hZ.out.no hZk he0⟩
       obtain⟨yk,yi,yq,⟨ys,yd,ysp,ydp⟩,yc⟩:=y;dsimp only at e0 e1 e2 e3 e4 e5 e6 e7 BC;clear hT TL TF TS TO hZk hUr TL2 DA hy KO hU4 hZ;go_wp2_with fail;refine BC.out.mono ?_;rintro e w6⟨rfl,n2,M2,ar2,evs2,err2,hT2⟩;clear BC e0 e1 e2 e3 e4 e5 e6 e7;go_wp2_with fail;go_roundw
       case rel=>exact⟨k+1,by go_num,by omega,n2,M2,ar2,evs2,err2,hT2⟩
       case measure=>simp[intOf];omega
      ·obtain rfl:k=c.length:=by omega
       have fin:∃n' M' ar' evs' err',TOut w0 w p T (.slice A ds.length cap) (.slice L ls.length e9) (.pointer R) a7 S v ds ls n' M' ar' evs' err' wr /\ Hid (BrR a7 ds ls K ((xi,xq),⟨xs,xd,xsp,xdp⟩) M ar evs n' M' ar' evs' err'):=⟨n',M',ar',evs',err',TOut.fromB D4 hT.out.1,hZ.out.fin hZk⟩;clear hT TL TF TS TO hZk KO hU4 hZ;go_wp2_with fail;first
        | (go_end0;exact⟨rfl,fin⟩)
        | exact bodyPost_ret (results_none rfl _ _ _) rfl ⟨rfl,fin⟩
        | (trace_state;fail)
theorem oj{w0:World}{p:Wp}{T:Nat}{A L:Option Addr}{cap e9 R:Nat}{a7:Int}{ds:List Dv}{ls:List Lk}{K:Nat}(hz:netV ds ls=0)(hI:Closed ds ls (ay ds ls K))(hm:a7<=2000)(hD:Hid (Devs w0 w0 (.slice A ds.length cap) ds))(hL:Hid (Links w0 w0 (.slice L ls.length e9) ls))(hF:Hid (FstC R (rdF ds ls K) w0))(hR:Hid (RdC R (rdF ds ls K) w0)):∀(j:Nat) (x:Arv),0<=rdF ds ls K x->rdF ds ls K x<(j:Int)->BrC w0 p T (.slice A ds.length cap) (.slice L ls.length e9) (.pointer R) a7 ds ls K x
 | 0,x,h0,h1=>by omega
 | j+1,x,h0,h1=>wI x hz hI h0 hm (hidOf λy hy0 hy1=>oj hz hI hm hD hL hF hR j y hy0 (by omega)) hD hL hF hR
def WiP(ds:List Dv)(ls:List Lk)(K:Nat)(a7:Int)(x:Arv)(w:World)(e:Ending)(w':World):Prop :=
 (rdF ds ls K x<0 /\ e=.returned (.tuple #[.slice none 0 0,.int .i64 4])) \/
 (0<=rdF ds ls K x /\ ((a7<Bd (rdF ds ls K x) /\ e=.returned (.tuple #[.slice none 0 0,.int .i64 2])) \/
   ∃v evs M ar,e=.returned (.tuple #[v,.int .i64 0]) /\ Hid (EvRow w w' v evs /\ BrP ds ls K x (noM,[]) (M,ar) evs /\ (evs.length:Int)<=a7)))
theorem wJ{A L:Option Addr}{cap e9 R:Nat}{a7:Int}{ds:List Dv}{ls:List Lk}{K:Nat}(x:Arv)(w:World)(hz:netV ds ls=0)(hI:Closed ds ls (ay ds ls K))(hm:a7<=2000)(hm0:0<=a7)(hD:Hid (Devs w w (.slice A ds.length cap) ds))(hL:Hid (Links w w (.slice L ls.length e9) ls))(hF:Hid (FstC R (rdF ds ls K) w))(hR:Hid (RdC R (rdF ds ls K) w)) :
  Cl 34 #[.agg #[.slice A ds.length cap,.slice L ls.length e9],.pointer R,arV x.1 x.2,a7] w λe w'=>Hid (WiP ds ls K a7 x w e w') /\ Below w w w':=by
 have D1:=Below.alN (Below.alN (Below.refl w w) (.cells #[.slice A ds.length cap,.slice L ls.length e9] 25)) (.cells #[x.1.1,x.1.2,x.2.s,x.2.d,x.2.sp,x.2.dp] 59);have N1:=(ah w #[.slice A ds.length cap,.slice L ls.length e9] 25).alloc (.cells #[x.1.1,x.1.2,x.2.s,x.2.d,x.2.sp,x.2.dp] 59);have X1:=ax (w.alloc (.cells #[.slice A ds.length cap,.slice L ls.length e9] 25)) #[x.1.1,x.1.2,x.2.s,x.2.d,x.2.sp,x.2.dp] 59 (w.heap.size+1) (by simp);have RX:Hid (∀W,Below w w W->CB 24 #[.pointer R,plA x.1.1 x.1.2,pkV x.2] W (.int .i64 (rdF ds ls K x))):=λW h=>hR.out x W h;have NW:Hid (∀W,Below w w W->Cl 10 #[.agg #[.slice A ds.length cap,.slice L ls.length e9]] W (WNew W ds ls)):=λW h=>kg A L cap e9 ds ls W ((hD.out.below h).mono h.size) ((hL.out.below h).mono h.size);have BR:Hid (0<=rdF ds ls K x->∀(p:Wp) W,WlAt W p none 0 ds ls 0 noM []->LoW w p->Below w w W->Cl 71 #[.pointer (some ⟨W,0,none⟩),arV x.1 x.2] (W.alloc (.cells #[.slice A ds.length cap,.slice L ls.length e9,.pointer R,a7,.pointer (some ⟨p.B,0,none⟩),.slice none 0 0,.int .i64 0] 166)) λe w'=>e=.returned (.tuple #[]) /\ ∃v err,w'.cell? ⟨W,5,none⟩=some v /\ w'.cell? ⟨W,6,none⟩=some (.int .i64 err) /\ Below w w w' /\ Hid ((err=2 /\ a7<Bd (rdF ds ls K x))\/(err=0 /\ ∃evs M ar,EvRow w w' v evs /\ BrP ds ls K x (noM,[]) (M,ar) evs /\ (evs.length:Int)<=a7))):=λh0 p W hW hlo hb=>by
  have hTl:Tl w (W.alloc (.cells #[.slice A ds.length cap,.slice L ls.length e9,.pointer R,a7,.pointer (some ⟨p.B,0,none⟩),.slice none 0 0,.int .i64 0] 166)) p W.heap.size (.slice A ds.length cap) (.slice L ls.length e9) (.pointer R) a7 none 0 ds ls 0 noM [] (.slice none 0 0) [] 0:=⟨hW.alloc _,ah _ _ _,mT _ _,hW.blk.lt,hlo,Below.alN hb _⟩;refine(oj hz hI hm hD hL hF hR ((rdF ds ls K x).toNat+1) x h0 (by omega) _ none 0 0 noM [] _ [] hTl pi (by simp) (by simp) (by simpa using hm0)).mono ?_;rintro e w'⟨rfl,n2,M2,ar2,evs2,err2,⟨S2,cS2,v2,TL,_⟩,hB⟩;refine⟨rfl,v2,err2,TL.bk.at 5,TL.bk.at 6,TL.dn,?_⟩;rcases hB.out with⟨e,hl⟩|⟨e,l,e1,hp,_,_,_,hmo⟩
  ·exact Or.inl ⟨e,by simpa using hl⟩
  ·simp only[List.nil_append]at e1;subst e1;exact Or.inr ⟨e,evs2,M2,ar2,own_lo TL.row (by have:=hb.size;omega),hp,hmo⟩
 obtain⟨r,hr⟩:∃r,rdF ds ls K x=r:=⟨_,rfl⟩;have WI:Hid (∀e w',((r<0 /\ e=.returned (.tuple #[.slice none 0 0,.int .i64 4]))\/(0<=r /\ ((a7<Bd r /\ e=.returned (.tuple #[.slice none 0 0,.int .i64 2]))\/∃v evs M ar,e=.returned (.tuple #[v,.int .i64 0]) /\ EvRow w w' v evs /\ BrP ds ls K x (noM,[]) (M,ar) evs /\ (evs.length:Int)<=a7)))->Hid (WiP ds ls K a7 x w e w')):=λe w' h=>by
  show WiP ds ls K a7 x w e w';unfold WiP;rw[hr];exact h
 rw[hr]at RX BR;obtain⟨⟨xi,xq⟩,⟨xs,xd,xsp,xdp⟩⟩:=x;dsimp only at *;have x0:=X1.at 0;have x1:=X1.at 1;have x2:=X1.at 2;have x3:=X1.at 3;have x4:=X1.at 4;have x5:=X1.at 5;have lx:=X1.lt;clear hD hL hF hR hI hr hm hm0;go_enter func34,ntmps34;go_wp2_with fail;refine(RX.out _ D1).mono ?_;rintro e w2⟨rfl,hb2⟩;have D2:=ag hb2 D1;have N2:=Bk.keep hb2 N1;have X2:=Bk.keep hb2 X1;clear RX D1 N1 X1 hb2 x0 x1 x2 x3 x4 x5 lx;by_cases h0:r<0
 ·have tr:decide (r<0)=true:=by simpa using h0
  have fin:=WI.out (.returned (.tuple #[.slice none 0 0,.int .i64 4])) w2 (Or.inl ⟨h0,rfl⟩);clear NW BR WI;go_wp2_with fail;go_ret2;exact⟨fin,D2⟩
 ·have tr:decide (r<0)=false:=by simpa using h0
  have n0:=N2.at 0;have n1:=N2.at 1;have ln:=N2.lt;have BR:=hidOf (BR.out (by omega));go_wp2_with fail;refine(NW.out _ D2).mono ?_;rintro e w3⟨hb3,⟨hne,_⟩|⟨_,p,rfl,hW,l1,l2,l3,l4,l5⟩⟩
  ·exact absurd hz hne
  have D3:=ag hb3 D2;have N3:=Bk.keep hb3 N2;have X3:=Bk.keep hb3 X2;have hs2:=D2.size;have BR:=hidOf (BR.out p w3 hW ⟨by omega,by omega,by omega,by omega,by omega⟩ D3);have n0:=N3.at 0;have n1:=N3.at 1;have ln:=N3.lt;have XA:=X3.alloc (.cells #[.slice A ds.length cap,.slice L ls.length e9,.pointer R,a7,.pointer (some ⟨p.B,0,none⟩),.slice none 0 0,.int .i64 0] 166);have x0:=XA.at 0;have x1:=XA.at 1;have x2:=XA.at 2;have x3:=XA.at 3;have x4:=XA.at 4;have x5:=XA.at 5;have lx:=XA.lt;clear NW hb3 hW l1 l2 l3 l4 l5 N2 X2 D2 N3 X3 XA;go_wp2_with fail;refine BR.out.mono ?_;rintro e w4⟨rfl,v,err,c5,c6,D4,hE⟩;clear BR x0 x1 x2 x3 x4 x5 lx n0 n1 ln;rcases hE.out with⟨rfl,hlt⟩|⟨rfl,evs,M,ar,hv,hp,hl⟩
  ·have fin:=WI.out (.returned (.tuple #[.slice none 0 0,.int .i64 2])) w4.drew (Or.inr ⟨by omega,Or.inl ⟨hlt,rfl⟩⟩);have D5:=D4.drew;clear WI hE;go_wp2_with fail;go_region;all_goals
    go_wp2_with fail;go_ret2;exact⟨fin,D5⟩
  ·have fin:=WI.out (.returned (.tuple #[v,.int .i64 0])) w4 (Or.inr ⟨by omega,Or.inr ⟨v,evs,M,ar,rfl,hv,hp,hl⟩⟩);clear WI hE hv hp;go_wp2_with fail;go_ret2;exact⟨fin,D4⟩
theorem WiP.from{ds:List Dv}{ls:List Lk}{K:Nat}{a7:Int}{x:Arv}{w w1:World}{e:Ending}{w':World}(hb:w.heap.size<=w1.heap.size)(h:WiP ds ls K a7 x w1 e w'):WiP ds ls K a7 x w e w':=by
 rcases h with h|⟨h0,h|⟨v,evs,M,ar,e1,h⟩⟩
 ·exact Or.inl h
 ·exact Or.inr ⟨h0,Or.inl h⟩
 ·exact Or.inr ⟨h0,Or.inr ⟨v,evs,M,ar,e1,own_lo h.out.1 hb,h.out.2⟩⟩
theorem WiP.tup{ds:List Dv}{ls:List Lk}{K:Nat}{a7:Int}{x:Arv}{w:World}{e:Ending}{w':World}(h:WiP ds ls K a7 x w e w'):∃a b,e=.returned (.tuple #[a,.int .i64 b]):=by
 rcases h with⟨_,e⟩|⟨_,⟨_,e⟩|⟨_,_,_,_,e,_⟩⟩ <;> exact⟨_,_,e⟩
theorem wK{A L:Option Addr}{cap e9 R:Nat}{ds:List Dv}{ls:List Lk}{K:Nat}(x:Arv)(w:World)(hz:netV ds ls=0)(hI:Closed ds ls (ay ds ls K))(hD:Hid (Devs w w (.slice A ds.length cap) ds))(hL:Hid (Links w w (.slice L ls.length e9) ls))(hF:Hid (FstC R (rdF ds ls K) w))(hR:Hid (RdC R (rdF ds ls K) w)) :
  Cl 9 #[.agg #[.slice A ds.length cap,.slice L ls.length e9],.pointer R,plA x.1.1 x.1.2,pkV x.2] w λe w'=>Hid (WiP ds ls K 2000 x w e w') /\ Below w w w':=by
 have D1:=Below.alN (Below.alN (Below.alN (Below.refl w w) (.cells #[.slice A ds.length cap,.slice L ls.length e9] 25)) (.cells #[x.1.1,x.1.2] 27)) (.cells #[x.2.s,x.2.d,x.2.sp,x.2.dp] 37);have N1:=((ah w #[.slice A ds.length cap,.slice L ls.length e9] 25).alloc (.cells #[x.1.1,x.1.2] 27)).alloc (.cells #[x.2.s,x.2.d,x.2.sp,x.2.dp] 37);have P1:=(ax (w.alloc (.cells #[.slice A ds.length cap,.slice L ls.length e9] 25)) #[x.1.1,x.1.2] 27 (w.heap.size+1) (by simp)).alloc (.cells #[x.2.s,x.2.d,x.2.sp,x.2.dp] 37);have Q1:=ax ((w.alloc (.cells #[.slice A ds.length cap,.slice L ls.length e9] 25)).alloc (.cells #[x.1.1,x.1.2] 27)) #[x.2.s,x.2.d,x.2.sp,x.2.dp] 37 (w.heap.size+1+1) (by simp);have WI:Hid (∀W,Below w w W->Cl 34 #[.agg #[.slice A ds.length cap,.slice L ls.length e9],.pointer R,arV x.1 x.2,.int .i64 2000] W λe w'=>Hid (WiP ds ls K 2000 x W e w') /\ Below W W w'):=λW h=>wJ x W hz hI (by decide) (by decide) ((hD.out.below h).mono h.size) ((hL.out.below h).mono h.size) (hF.out.below h) (hR.out.below h);have FR:Hid (∀{W e w'},Below w w W->Hid (WiP ds ls K 2000 x W e w')->Hid (WiP ds ls K 2000 x w e w') /\ ∃a b,e=.returned (.tuple #[a,.int .i64 b])):=λ{W e w'} hb h=>⟨WiP.from hb.size h.out,WiP.tup h.out⟩;obtain⟨⟨xi,xq⟩,⟨xs,xd,xsp,xdp⟩⟩:=x;dsimp only at *;have n0:=N1.at 0;have n1:=N1.at 1;have p0:=P1.at 0;have p1:=P1.at 1;have q0:=Q1.at 0;have q1:=Q1.at 1;have q2:=Q1.at 2;have q3:=Q1.at 3;have ln:=N1.lt;have lp:=P1.lt;have lq:=Q1.lt;clear hD hL hF hR hI;go_enter func9,ntmps9;go_wp2_with fail;refine(WI.out _ D1).mono ?_;rintro e w2⟨hW,hb2⟩;obtain⟨fin,a,b,rfl⟩:=FR.out D1 hW;have D2:=ag hb2 D1;clear WI FR hW N1 P1 Q1 n0 n1 p0 p1 q0 q1 q2 q3 ln lp lq D1 hb2;go_wp2_with fail;go_ret2;exact⟨fin,D2⟩
theorem wL(a b:Nat)(k:Nat)(hk:k<=62)(ha:a<2 ^ k)(hb:b<2 ^ k):Go.bits .or .i64 (a:Int) (b:Int)=((a ||| b:Nat):Int):=by
 have hp:2 ^ k<=2 ^ 62:=Nat.pow_le_pow_right (by omega) hk;have e1:BitVec.ofInt 64 (a:Int)=BitVec.ofNat 64 a:=by simp
 have e2:BitVec.ofInt 64 (b:Int)=BitVec.ofNat 64 b:=by simp
 have hle:a ||| b<2 ^ k:=Nat.or_lt_two_pow ha hb
 have hm:(BitVec.ofNat 64 a ||| BitVec.ofNat 64 b).toNat=a ||| b:=by
  simp[BitVec.toNat_or,Nat.mod_eq_of_lt (show a<18446744073709551616 by omega),Nat.mod_eq_of_lt (show b<18446744073709551616 by omega)]
 show IntKind.i64.wrap ((BitVec.ofInt 64 (a:Int) ||| BitVec.ofInt 64 (b:Int)).toNat:Int)=_;rw[e1,e2,hm,IntWalk.i64_in _ (by omega)]
theorem ol{m j c:Nat}(hc:c<2 ^ j):(2 ^ (j+1)*m+c).testBit j=false:=by
 have hp:0<2 ^ j:=Nat.two_pow_pos j;rw[Nat.testBit_eq_decide_div_mod_eq,show 2 ^ (j+1)*m+c=2 ^ j*(2*m)+c by rw[Nat.pow_succ,Nat.mul_assoc],Nat.mul_add_div hp,Nat.div_eq_of_lt hc];simp
theorem wM{m j c:Nat}(hc:c<2 ^ j):(2 ^ (j+1)*m+2 ^ j+c).testBit j=true:=by
 have hp:0<2 ^ j:=Nat.two_pow_pos j;rw[Nat.testBit_eq_decide_div_mod_eq,show 2 ^ (j+1)*m+2 ^ j+c=2 ^ j*(2*m+1)+c by rw[Nat.pow_succ,Nat.mul_add,Nat.mul_assoc,Nat.mul_one],Nat.mul_add_div hp,Nat.div_eq_of_lt hc];simp
structure Found(a8:Nat)(ns:List Nd)(f F B:Nat):Prop where
 lt:F<ns.length
 ne:F≠0
 mul:∃m,B=2 ^ (a8-nv ns F)*m
 le:B+2 ^ (a8-nv ns F)<=2 ^ a8
 same:∀c,c<2 ^ (a8-nv ns F)->ev ns f (envOf a8 (B+c))=ev ns F (envOf a8 (B+c))
 none:∀b,b<B->ev ns f (envOf a8 b)=false
section
variable {a8:Nat}{ns:List Nd}
theorem wN(wf:Wf a8 ns){f:Nat}(hf:f<ns.length)(h0:f≠0):Found a8 ns f f 0:=by
 have:=va_le wf hf;refine⟨hf,h0,⟨0,rfl⟩,?_,λc _=>rfl,λb hb=>by omega⟩;rw[Nat.zero_add];exact Nat.pow_le_pow_right (by omega) (by omega)
theorem Found.low(wf:Wf a8 ns){f F B:Nat}(h:Found a8 ns f F B)(F2:2<=F)(hl:nl ns F≠0):Found a8 ns f (nl ns F) B:=by
 have hF:=h.lt;have l1:=wf.lo F F2 hF;have v0:=wf.va F F2 hF;have v1:=wf.vlo F F2 hF;have v2:=va_le wf (f:=nl ns F) (by omega);obtain⟨m,hm⟩:=h.mul;have hk:a8-nv ns F=(a8-nv ns F-1)+1:=by omega
 have hk2:a8-nv ns F=(a8-nv ns (nl ns F))+(nv ns (nl ns F)-nv ns F):=by omega
 have hle:2 ^ (a8-nv ns (nl ns F))<=2 ^ (a8-nv ns F-1):=Nat.pow_le_pow_right (by omega) (by omega);have hle2:2 ^ (a8-nv ns F-1)<=2 ^ (a8-nv ns F):=Nat.pow_le_pow_right (by omega) (by omega);refine⟨by omega,hl,⟨2 ^ (nv ns (nl ns F)-nv ns F)*m,?_⟩,?_,λc hc=>?_,h.none⟩
 ·rw[hm];conv=>lhs;rw[hk2,Nat.pow_add]
  rw[Nat.mul_assoc]
 ·have:=h.le;omega
 ·rw[h.same c (by omega),cE wf F2 hF];have hb:envOf a8 (B+c) (nv ns F)=false:=by
   unfold envOf;rw[show a8-1-nv ns F=a8-nv ns F-1 by omega,hm,hk];exact ol (by omega)
  rw[hb];simp
theorem Found.high(wf:Wf a8 ns){f F B:Nat}(h:Found a8 ns f F B)(F2:2<=F)(hl:nl ns F=0):Found a8 ns f (nh ns F) (B ||| 2 ^ (a8-1-nv ns F)):=by
 have hF:=h.lt;have l1:=wf.hi F F2 hF;have v0:=wf.va F F2 hF;have v1:=wf.vhi F F2 hF;have v2:=va_le wf (f:=nh ns F) (by omega);have hne:=wf.ne F F2 hF;obtain⟨m,hm⟩:=h.mul;have hj:a8-1-nv ns F=a8-nv ns F-1:=by omega
 have hk:a8-nv ns F=(a8-nv ns F-1)+1:=by omega
 have hk2:a8-nv ns F-1=(a8-nv ns (nh ns F))+(nv ns (nh ns F)-nv ns F-1):=by omega
 have hle : 2 ^ (a8   - nv ns (nh ns F)) <= 2 ^ (a8   - nv ns F - 1) := Nat.pow_le_pow_right (by omega) (by omega); have hdb : 2 ^ (a8   - nv ns F) = 2 ^ (a8   - nv ns F - 1) + 2 ^ (a8   - nv ns F - 1) := by (conv => lhs; rw [hk, Nat.pow_succ]); omega
 have hor:B ||| 2 ^ (a8-1-nv ns F)=B+2 ^ (a8-nv ns F-1):=by
  rw[hj,hm,Nat.two_pow_add_eq_or_of_lt (by rw[hdb];have:=Nat.two_pow_pos (a8-nv ns F-1);omega)]
 rw[hor];have tb:∀c,c<2 ^ (a8-nv ns F-1)->envOf a8 (B+c) (nv ns F)=false /\ envOf a8 (B+2 ^ (a8-nv ns F-1)+c) (nv ns F)=true:=λc hc=>by
  unfold envOf;rw[hj,hm,hk];refine⟨ol (by simpa using hc),?_⟩;have:=wM (m:=m) (j:=a8-nv ns F-1) (c:=c) hc;simpa using this
 refine⟨by omega,by omega,⟨2 ^ (nv ns (nh ns F)-nv ns F-1)*(2*m+1),?_⟩,?_,λc hc=>?_,λb hb=>?_⟩
 ·rw[<- Nat.mul_assoc,<- Nat.pow_add,<- hk2,hm]
  conv=>lhs;rw[hk,Nat.pow_succ]
  rw[show a8-nv ns F-1+1-1=a8-nv ns F-1 by omega,Nat.mul_add,Nat.mul_one,Nat.mul_assoc]
 ·have:=h.le;omega
 ·rw[Nat.add_assoc,h.same _ (by omega),cE wf F2 hF,<- Nat.add_assoc,(tb c (by omega)).2];simp
 ·by_cases hbB:b<B
  ·exact h.none b hbB
  ·obtain⟨c,rfl⟩:∃c,b=B+c:=⟨b-B,by omega⟩;rw[h.same c (by omega),cE wf F2 hF,(tb c (by omega)).1,hl,ev0];simp
end
def IsOne(a8:Nat)(ns:List Nd)(f o:Nat)(s:Bool):Prop :=
 (f=0 /\ o=0 /\ s=false)\/(f≠0 /\ s=true /\ o<2 ^ a8 /\ ev ns f (envOf a8 o)=true /\ ∀b,b<o->ev ns f (envOf a8 b)=false)
theorem Found.end{a8:Nat}{ns:List Nd}{f B:Nat}(h:Found a8 ns f 1 B)(h0:f≠0):IsOne a8 ns f B true:=by
 have hp:=Nat.two_pow_pos (a8-nv ns 1);have hl:=h.le;refine Or.inr ⟨h0,rfl,by omega,?_,h.none⟩;have:=h.same 0 hp;rw[Nat.add_zero,ev1]at this;exact this
section
variable {a9 a M a8 a7:Nat}{w:World}{ns:List Nd}
theorem wO(h:Ar a9 a M a8 a7 w ns){f:Nat}(hf:f<ns.length) :
  Cl 70 #[.pointer a,(f:Int)] w λe w'=>∃(o:Nat) (s:Bool),e=.returned (.tuple #[(o:Int),.bool s,.int .i64 0]) /\ IsOne a8 ns f o s /\ Ar a9 a M a8 a7 w' ns /\ Kp (ca a9 a M a8 a7) w w':=by
 have v16:=h.vars16;have wf:=h.wf;have hl4:ns.length<=40000:=Nat.le_trans h.le h.most4;have hpw:2 ^ a8<=2 ^ 16:=Nat.pow_le_pow_right (by omega) v16;have t1:(decide ((0:Int)<=(f:Int))&&decide ((f:Int)<(ns.length:Int)))=true:=by simp;omega
 go_enter func70,ntmps70;go_wp2_with (go_at_call 84;refine(di h (f:Int)).mono ?_;rintro e w'⟨rfl,rfl⟩;rw[t1]);go_loopw[1,7] (λg bb wr=>∃F B:Nat,g=.int .i64 (F:Int) /\ bb=.int .i64 (B:Int) /\ ((f=0 /\ F=0 /\ B=0)\/(f≠0 /\ Found a8 ns f F B)) /\ Ar a9 a M a8 a7 wr ns /\ Kp (ca a9 a M a8 a7) w' wr) (λg _ _=>(intOf g).toNat)
 case atStart =>
  refine⟨f,0,rfl,rfl,?_,h,Kp.refl _ _⟩;by_cases h0:f=0
  ·exact Or.inl ⟨h0,h0,rfl⟩
  ·exact Or.inr ⟨h0,wN wf hf h0⟩
 case round =>
  obtain⟨F,B,rfl,rfl,hI,hA,hK⟩:=hrel;rcases hI with⟨rfl,rfl,rfl⟩|⟨h0,hI⟩
  ·go_wp2_with fail
   go_ret3
   exact⟨0,false,rfl,Or.inl ⟨rfl,rfl,rfl⟩,hA,hK⟩
  ·have hF:=hI.lt;have hI':=Hq.mk hI;by_cases hF2:2<=F
   ·have t5:decide ((1:Int)<(F:Int))=true:=by simp;omega
    obtain⟨cap,c0,c1,c2,c3,cf,cn⟩:=hA.reads;obtain⟨n0,n1,n2⟩:=cn F hF;have hlo:=wf.lo F hF2 hF;have hhi:=wf.hi F hF2 hF;have hva:=wf.va F hF2 hF;have hA1:=hA.alloc (.cells #[(nv ns F:Int),(nl ns F:Int),(nh ns F:Int)] 144);have hK1:=hK.trans (Ar.kalloc' hA (.cells #[(nv ns F:Int),(nl ns F:Int),(nh ns F:Int)] 144));have hBle:B<2 ^ a8:=by have:=hI.le;have:=Nat.two_pow_pos (a8-nv ns F);omega
    have hq63:∀q:Nat,q=2 ^ (a8-1-nv ns F)->Go.bits .or .i64 (B:Int) (q:Int)=((B ||| q:Nat):Int):=λq hq=>wL B q a8 (by omega) hBle (by
     rw[hq];exact Nat.pow_lt_pow_right (by omega) (by omega))
    have hq63':=Hq.mk hq63;generalize rowOf wr a=g at *;clear cn hq63 hI;by_cases hl0:nl ns F=0
    ·have hl0':=Hq.mk hl0;rw[hl0]at n1 hA1 hK1;rw[hl0]at hlo;clear hl0;go_wp2_with (go_at_call 86;refine(lz hA1 hva).mono ?_;rintro e w2⟨q,rfl,hq,rfl⟩;have hbt:=hq63'.out q hq.out);go_roundw
     case rel=>exact⟨nh ns F,B ||| q,rfl,rfl,Or.inr ⟨h0,by rw[hq.out];exact hI'.out.high wf hF2 hl0'.out⟩,hA1,hK1⟩
     case measure=>simp[intOf];omega
    ·have t6:((nl ns F:Int) == 0)=false:=by simp;omega
     go_wp2_with fail;go_roundw
     case rel=>exact⟨nl ns F,B,rfl,rfl,Or.inr ⟨h0,hI'.out.low wf hF2 hl0⟩,hA1,hK1⟩
     case measure=>simp[intOf];omega
   ·obtain rfl:F=1:=by have:=hI.ne;omega
    clear hI;go_wp2_with fail
    go_ret3
    exact⟨B,true,rfl,hI'.out.end h0,hA,hK⟩
end
structure Lw(bR R MR a7:Nat)(nsR:List Nd)(w:World)(a9 q a M:Nat)(mv:Array Value)(g:Nat)(fs:List (Nat × (Env->Bool)))(W:World):Prop where
 bn:∃ns er,Bn a9 q a M W W ns er /\ (∀x∈fs,Fn ns er x.1 x.2) /\ (er=0->ns.length<=2+g) /\ (er≠0->40000<=2+g)
 ar:Ar bR R MR 14 a7 W nsR
 lt:R<w.heap.size /\ MR<w.heap.size /\ rowOf W R<w.heap.size /\ w.heap.size<a9
 mz:Bz W w.heap.size mv 30
 bel:Below w w W
section
variable {bR R MR a7 a9 q a M:Nat}{nsR:List Nd}{w W W':World}{mv:Array Value}{g g':Nat}{fs:List (Nat × (Env->Bool))}
theorem Lw.call{F:FuncId}{args:Array Value}{φ:Env->Bool}(s:Lw bR R MR a7 nsR w a9 q a M mv g fs W)(c:∀ns er,Bn a9 q a M W W ns er->(∀x∈fs,Fn ns er x.1 x.2)->Cl F args W (BOut a9 q a M W W ns er g' φ)) :
  Cl F args W λe w'=>∃f:Nat,e=.returned (f:Int) /\ Lw bR R MR a7 nsR w a9 q a M mv (g+g') ((f,φ)::fs) w':=by
 obtain⟨ns,er,b,hf,l1,l2⟩:=s.bn;obtain⟨r1,r2,r3,r4⟩:=s.lt;refine(c ns er b hf).mono λe w2 B=>?_;obtain⟨f,ns2,er2,rfl,⟨b1,tf⟩,X,ho,h1,hg⟩:=B;have hb:=b1.bel;have low:∀i,i<a9->w2.heap[i]?=W.heap[i]?:=λi hi=>hb.block i hi;refine⟨f,rfl,⟨ns2,er2,b1.root,λx hx=>?_,λe=>?_,λe=>?_⟩,s.ar.same (low _ (by omega)) (low _ (by omega)) (low _ (by omega)),⟨r1,r2,?_,r4⟩,(low _ (by omega)).trans s.mz,s.bel.trans (hb.mono (by omega))⟩
 ·rcases List.mem_cons.1 hx with rfl|hx
  ·exact h1
  ·exact(hf x hx).step b.ar.wf b1.ar.wf X ho
 ·have e0:=ho e;have:=l1 e0;have:=(hg.out e0).1;omega
 ·by_cases e0:er=0
  ·have:=l1 e0;have:=(hg.out e0).2 e;omega
  ·have:=l2 e0;omega
 ·rw[aQ (low R (by omega))];exact r3
theorem Lw.drew(s:Lw bR R MR a7 nsR w a9 q a M mv g fs W):Lw bR R MR a7 nsR w a9 q a M mv g fs W.drew:=by
 obtain⟨ns,er,b,hf,l1,l2⟩:=s.bn;exact⟨⟨ns,er,b.drew.root,hf,l1,l2⟩,s.ar.drewT,s.lt,s.mz,s.bel.drew⟩
end
def LeastV(φ:Env->Bool)(o:Nat)(s:Bool):Prop :=
 (s=false /\ ∀b,b<16384->φ (envOf 14 b)=false)\/(s=true /\ o<16384 /\ φ (envOf 14 o)=true /\ ∀b,b<o->φ (envOf 14 b)=false)
theorem IsOne.least{ns:List Nd}{f o:Nat}{s:Bool}{φ:Env->Bool}(h:IsOne 14 ns f o s)(he:∀x,ev ns f x=φ x):LeastV φ o s:=by
 rcases h with⟨rfl,_,rfl⟩|⟨_,rfl,h1,h2,h3⟩
 ·exact Or.inl ⟨rfl,λb _=>by rw[<- he,ev0]⟩
 ·exact Or.inr ⟨rfl,h1,by rw[<- he];exact h2,λb hb=>by rw[<- he];exact h3 b hb⟩
theorem om{bR R MR a7:Nat}{nsR:List Nd}{w:World}(hR:Ar bR R MR 14 a7 w nsR){f:Nat}(hf:f<nsR.length)(sa sb sc sd:Nat)(ha:sa<65536)(hb:sb<65536)(hc:sc<256)(hd:sd<256) :
  Cl 31 #[.pointer R,(f:Int),mt sa sb sc sd] w λe w'=>∃(o:Nat) (s:Bool),e=.returned (.tuple #[(o:Int),.bool s]) /\ Hid (LeastV (λx=>ev nsR f x&&phi sa sb sc sd x) o s) /\ Below w w w':=by
 have D0:Below w w (w.alloc (.cells #[.int .u16 (sa:Int),.int .u16 (sb:Int),.int .u8 (sc:Int),.int .u8 (sd:Int)] 30)):=Below.alloc' (Below.refl _ w) _;have Z1:Bz (w.alloc (.cells #[.int .u16 (sa:Int),.int .u16 (sb:Int),.int .u8 (sc:Int),.int .u8 (sd:Int)] 30)) w.heap.size #[.int .u16 (sa:Int),.int .u16 (sb:Int),.int .u8 (sc:Int),.int .u8 (sd:Int)] 30:=Bz.new w _ _ _ rfl;have NBC:Hid (Cl 66 #[] (w.alloc (.cells #[.int .u16 (sa:Int),.int .u16 (sb:Int),.int .u8 (sc:Int),.int .u8 (sd:Int)] 30)) λe w'=>∃q a M,e=.returned (.tuple #[.pointer (some ⟨q,0,none⟩),.int .i64 0]) /\ Hid (Lw bR R MR a7 nsR w (w.heap.size+1) q a M #[.int .u16 (sa:Int),.int .u16 (sb:Int),.int .u8 (sc:Int),.int .u8 (sd:Int)] 0 [] w')):=(qk _).mono λe w' ⟨q,a,M,e1,b⟩=>⟨q,a,M,e1,by
  have hz:(w.alloc (.cells #[.int .u16 (sa:Int),.int .u16 (sb:Int),.int .u8 (sc:Int),.int .u8 (sd:Int)] 30)).heap.size=w.heap.size+1:=by simp
  rw[hz]at b;have hb:=b.bel;have r1:=hR.lta;have r2:=hR.ltM;have r3:=hR.row.choose_spec.2.2;have D1:=D0.trans (hb.mono (by omega));refine⟨⟨_,_,b.root,(λx hx=>by cases hx),(λ_=>by simp),λh=>absurd rfl h⟩,hR.same (D1.block _ r1) (D1.block _ r2) (D1.block _ r3),⟨r1,r2,?_,by omega⟩,(hb.block _ (by omega)).trans Z1,D1⟩;rw[aQ (D1.block _ r1)];exact r3⟩
 clear D0 Z1;go_enter func31,ntmps31;go_wp2_with fail;with_reducible refine NBC.out.mono ?_
 rintro e w2⟨q,a,M,rfl,W2⟩;clear NBC;obtain⟨V,hV⟩:∃V:Nat->List (Nat × (Env->Bool))->World->Prop,V=λg fs W=>Lw bR R MR a7 nsR w (w.heap.size+1) q a M #[.int .u16 (sa:Int),.int .u16 (sb:Int),.int .u8 (sc:Int),.int .u8 (sd:Int)] g fs W:=⟨_,rfl⟩;have V2:V 0 [] w2.drew:=by rw[hV];exact W2.out.drew
 have HC:Hid (∀{g:Nat} {fs:List (Nat × (Env->Bool))} {W:World},V g fs W->(W.cell? ⟨w,0,none⟩=some (.int .u16 (sa:Int)) /\ W.cell? ⟨w,1,none⟩=some (.int .u16 (sb:Int)) /\ W.cell? ⟨w,2,none⟩=some (.int .u8 (sc:Int)) /\ W.cell? ⟨w,3,none⟩=some (.int .u8 (sd:Int)))):=λ{g fs W} hq=>by
  rw[hV]at hq;exact⟨hq.mz.cell 0 _ rfl,hq.mz.cell 1 _ rfl,hq.mz.cell 2 _ rfl,hq.mz.cell 3 _ rfl⟩
 have TK:Hid (Cl 68 #[.pointer (some ⟨q,0,none⟩),.pointer R,(f:Int)] w2.drew λe w'=>∃i:Nat,e=.returned (i:Int) /\ V (0+16383) [(i,ev nsR f)] w'):=by
  rw[hV]at V2 ⊢;obtain⟨r1,r2,r3,r4⟩:=V2.lt;exact V2.call λ_ _ b _=>(qp (λ_=>true) b V2.ar (by omega) (by omega) (by omega) hf (DepS.all _)).mono λ_ _ B=>B.more kr
 have MT:Hid (∀{W:World} {i:Nat},V (0+16383) [(i,ev nsR f)] W->Cl 69 #[.pointer (some ⟨q,0,none⟩),mt sa sb sc sd] W λe w'=>∃j:Nat,e=.returned (j:Int) /\ V (0+16383+44) [(j,phi sa sb sc sd),(i,ev nsR f)] w'):=λ{W i} hq=>by
  rw[hV]at hq ⊢;exact hq.call λ_ _ b _=>eO b sa sb sc sd ha hb hc hd
 have AN:Hid (∀{W:World} {i j:Nat},V (0+16383+44) [(j,phi sa sb sc sd),(i,ev nsR f)] W->Cl 67 #[.pointer (some ⟨q,0,none⟩),(i:Int),(j:Int)] W λe w'=>∃k:Nat,e=.returned (k:Int) /\ V (0+16383+44+16383) [(k,λx=>ev nsR f x&&phi sa sb sc sd x),(j,phi sa sb sc sd),(i,ev nsR f)] w'):=λ{W i j} hq=>by
  rw[hV]at hq ⊢;exact hq.call λ_ _ b hf=>cm _ _ _ _ _ b (hf (i,ev nsR f) (by simp)) (hf (j,phi sa sb sc sd) (by simp))
 have ONE:Hid (∀{W:World} {k:Nat} {fs:List (Nat × (Env->Bool))},V (0+16383+44+16383) ((k,λx=>ev nsR f x&&phi sa sb sc sd x)::fs) W->W.cell? ⟨q,0,none⟩=some (.pointer (some ⟨a,0,none⟩)) /\ Cl 70 #[.pointer (some ⟨a,0,none⟩),(k:Int)] W λe w'=>∃(o:Nat) (s:Bool),e=.returned (.tuple #[(o:Int),.bool s,.int .i64 0]) /\ Hid (LeastV (λx=>ev nsR f x&&phi sa sb sc sd x) o s) /\ w'.cell? ⟨q,1,none⟩=some (.int .i64 0) /\ Below w w w'):=λ{W k fs} hq=>by
  rw[hV]at hq;obtain⟨ns,er,b,hf,b1,b2⟩:=hq.bn;have he:er=0:=Classical.byContradiction λh=>by have:=b2 h;omega
  subst he;have hfn:=hf _ List.mem_cons_self;have r4:=hq.lt.2.2.2;refine⟨b.blk.cell 0 _ rfl,(wO b.ar hfn.1).mono λe w' ⟨o,s,e1,e2,e3,e4⟩=>⟨o,s,e1,e2.least (hfn.2 rfl),?_,?_⟩⟩
  ·exact Bz.cell ((b.ar.outBox b.blk (by decide) (by decide)).kp e4).blk 1 _ rfl
  ·exact hq.bel.trans ((b.ar.kp_below e4).mono (by omega))
 clear hV W2 hR hf ha hb hc hd;go_wp2_with fail;go_region_held3 (λW=>W.cell? ⟨w,0,none⟩=some (.int .u16 (sa:Int)) /\ W.cell? ⟨w,1,none⟩=some (.int .u16 (sb:Int)) /\ W.cell? ⟨w,2,none⟩=some (.int .u8 (sc:Int)) /\ W.cell? ⟨w,3,none⟩=some (.int .u8 (sd:Int))) (exact HC.out ‹_›)
  ((first
    | (go_at_call 68;refine TK.out.mono ?_;rintro e w3⟨i,rfl,V3⟩)
    | (go_at_call 69;refine(MT.out ‹_›).mono ?_;rintro e w4⟨j,rfl,V4⟩)
    | (go_at_call 67;refine(AN.out ‹_›).mono ?_;rintro e w5⟨k,rfl,V5⟩)))
 all_goals
  obtain⟨c0,OC⟩:=ONE.out V5;have OC':Hid (Cl 70 #[.pointer (some ⟨a,0,none⟩),(k:Int)] w5 _):=OC;clear OC ONE;go_wp2_with fail;refine OC'.out.mono ?_;rintro e w6⟨o,s,rfl,L6,c1,D6⟩;clear OC';go_wp2_with fail;cases s
  ·skip
   refine wp_region_held_drew (S:=λW=>W.cell? ⟨q,1,none⟩=some (.int .i64 0)) (by kernel_rfl) c1 (λhHeld=>?_);refine tk 0 ?_;try simp only[ly]
   refine tk 1 ?_;try simp only[ly]
   refine tk 2 ?_;try simp only[ly]
   refine tk0 3 ?_;try simp only[ly]
   refine tk0 4 ?_;try simp only[ly]
   refine tk 5 ?_;try simp only[ly]
   refine tk 6 ?_;try simp only[ly]
   refine tk0 7 ?_;try simp only[ly]
   refine tk0 8 ?_;try simp only[ly]
   refine tk0 9 ?_;try simp only[ly]
   refine tk0 10 ?_;try simp only[ly]
   refine tk0 11 ?_;try simp only[ly]
   refine tk 12 ?_;try simp only[ly]
   refine tk 13 ?_;try simp only[ly]
   refine tk 14 ?_;try simp only[ly]
   refine wpAnyH_done (by kernel_rfl) ?_ _;go_wp2_with fail;go_ret2;exact⟨o,_,rfl,L6,D6.drew⟩
  ·skip
   refine wp_region_held_drew (S:=λW=>W.cell? ⟨q,1,none⟩=some (.int .i64 0)) (by kernel_rfl) c1 (λhHeld=>?_);refine tk 0 ?_;try simp only[ly]
   refine tk 1 ?_;try simp only[ly]
   refine tk 2 ?_;try simp only[ly]
   refine tk 3 ?_;try simp only[ly]
   refine tk 4 ?_;try simp only[ly]
   refine tk 5 ?_;try simp only[ly]
   refine tk 6 ?_;try simp only[ly]
   refine tk 7 ?_;try simp only[ly]
   refine tk 8 ?_;try simp only[ly]
   refine tk 9 ?_;try simp only[ly]
   refine tk 10 ?_;try simp only[ly]
   refine tk 11 ?_;try simp only[ly]
   refine tk 12 ?_;try simp only[ly]
   refine tk 13 ?_;try simp only[ly]
   refine tk 14 ?_;try simp only[ly]
   refine wpAnyH_done (by kernel_rfl) ?_ _;go_wp2_with fail;go_ret2;exact⟨o,_,rfl,L6,D6.drew⟩
end Go.Proofs.YtjmclcmgpaofiaaGreat
namespace Go.Proofs.YtjmclcmgpaofiaaGreat
open Tryz
open Go.RowKit Go.Maps
open Classical in
noncomputable def someR (ns:List Nd)(f sa sb sc sd:Nat):Bool:=decide (∃b,b<16384 /\ (ev ns f (envOf 14 b)&&phi sa sb sc sd (envOf 14 b))=true)
theorem LeastV.some{φ:Env->Bool}{o:Nat}{s:Bool}(h:LeastV φ o s):s=true ↔ ∃b,b<16384 /\ φ (envOf 14 b)=true:=by
 rcases h with⟨rfl,h⟩|⟨rfl,h1,h2,_⟩
 ·refine⟨λe=>(by cases e),λ⟨b,hb,e⟩=>?_⟩;rw[h b hb]at e;cases e
 ·exact⟨λ_=>⟨o,h1,h2⟩,λ_=>rfl⟩
theorem LeastV.someR{ns:List Nd}{f sa sb sc sd o:Nat}{s:Bool}(h:LeastV (λx=>ev ns f x&&phi sa sb sc sd x) o s):s=someR ns f sa sb sc sd:=by
 unfold Go.Proofs.YtjmclcmgpaofiaaGreat.someR;rw[Bool.eq_iff_iff];simpa using h.some
theorem wP(c:Nat)(w:World)(hc:c<16384) :
  CB 33 #[(c:Int)] w (.tuple #[pk ((c / 1024:Nat):Int) ((c / 64 % 16:Nat):Int) ((c / 8 % 8:Nat):Int) ((c % 8:Nat):Int),.int .i64 0]):=by
 have t1:decide ((c:Int)<0)=false:=by simp
 have t2:decide ((16384:Int)<=(c:Int))=false:=by simp;omega
 go_enter func33,ntmps33;go_wp2_with fail;exact bodyPost_ret (v:=.tuple #[pk ((c / 1024:Nat):Int) ((c / 64 % 16:Nat):Int) ((c / 8 % 8:Nat):Int) ((c % 8:Nat):Int),.int .i64 0]) (by simp[results,results33,go_sem]) rfl ⟨rfl,by go_grown⟩
theorem wQ{bR R MR a7 rb cb f sa sb sc sd:Nat}{ns:List Nd}{W:World}(hA:Ar bR R MR 14 a7 W ns)(b0:Bz W rb #[.pointer R] 32)(b1:Bz W cb #[.int .u16 (sa:Int),.int .u16 (sb:Int),.int .u8 (sc:Int),.int .u8 (sd:Int)] 30)(hf:f<ns.length)(ha:sa<65536)(hb:sb<65536)(hc:sc<256)(hd:sd<256) :
  CB 30 #[(f:Int),.pointer rb,.pointer cb] W (.bool (someR ns f sa sb sc sd)):=by
 have LA:Hid (Cl 31 #[.pointer R,(f:Int),mt sa sb sc sd] W λe w'=>∃o:Nat,e=.returned (.tuple #[(o:Int),.bool (someR ns f sa sb sc sd)]) /\ Below W W w') :=
  (om hA hf sa sb sc sd ha hb hc hd).mono λe w' ⟨o,s,h1,h2,h3⟩=>⟨o,by rw[h1,h2.out.someR],h3⟩
 have c0:=b0.cell 0 _ rfl;have d0:=b1.cell 0 _ rfl;have d1:=b1.cell 1 _ rfl;have d2:=b1.cell 2 _ rfl;have d3:=b1.cell 3 _ rfl;generalize someR ns f sa sb sc sd=r at *;clear hA b0 b1 hf ha hb hc hd;go_enter func30,ntmps30;go_wp2_with fail;with_reducible refine LA.out.mono ?_
 rintro e w2⟨o,rfl,hb2⟩;clear LA;go_wp2_with fail;go_ret;exact⟨rfl,hb2⟩
theorem nine_last{a b c d e f g h i:Prop}(x:a /\ b /\ c /\ d /\ e /\ f /\ g /\ h /\ Hd i):i:=x.2.2.2.2.2.2.2.2.out
def wR(φ:Env->Bool)(o:Nat):Prop:=o<16384 /\ φ (envOf 14 o)=true /\ ∀b,b<o->φ (envOf 14 b)=false
def jj(o:Nat):Value:=pk ((o / 1024:Nat):Int) ((o / 64 % 16:Nat):Int) ((o / 8 % 8:Nat):Int) ((o % 8:Nat):Int)
def ii(n:Nat)(P:Nat->Bool)(φ:Nat->Env->Bool)(v:Value):Prop :=
 ∃k:Nat,Found1 (n+1) P k /\ ((k<n+1 /\ ∃o,wR (φ k) o /\ v=.tuple #[jj o,.bool true])\/(¬k<n+1 /\ v=.tuple #[pk 0 0 0 0,.bool false]))
end Go.Proofs.YtjmclcmgpaofiaaGreat
namespace Go.Proofs.YtjmclcmgpaofiaaGreat
open Tryz
open Go.RowKit Go.Maps
theorem oo{w:World}{i:Nat}{x y z u:Value}{t:TypeId}(hb:Bz w i #[x,y,z,u] t):(w.cell? ⟨i,0,none⟩=some x /\ w.cell? ⟨i,1,none⟩=some y /\ w.cell? ⟨i,2,none⟩=some z /\ w.cell? ⟨i,3,none⟩=some u) /\ (∀j,w.frozen? ⟨i,j,none⟩=false) /\ i<w.heap.size :=
 ⟨⟨hb.cell 0 _ rfl,hb.cell 1 _ rfl,hb.cell 2 _ rfl,hb.cell 3 _ rfl⟩,λj=>by simp[World.frozen?,show w.heap[i]?=_ from hb],hb.lt⟩
theorem wS{bR R MR a7 n:Nat}{sl:Value}{xs:List Value}{ns:List Nd}{p q:Int}{sa sb sc sd:Nat}{s:Nat->Nat->Nat->Nat}{w:World}(hRc:Rc bR R MR a7 sl (n+1) xs ns w)(hs:Hd (HistN s (n+1) xs ns))(hn:n<1000000)(ha:sa<65536)(hb:sb<65536)(hc:sc<256)(hd:sd<256)
  (MO:Hd (∀i j,i<=j->j<n+1->someR ns (atN (s i) p q) sa sb sc sd=true->someR ns (atN (s j) p q) sa sb sc sd=true)) :
  Cl 8 #[.pointer R,.agg #[p,q],mt sa sb sc sd] w λe w'=>∃v:Value,e=.returned v /\ Hd (ii n (λi=>someR ns (atN (s i) p q) sa sb sc sd) (λi x=>ev ns (atN (s i) p q) x&&phi sa sb sc sd x) v) /\ Below w w w':=by
 obtain⟨w1,hw1⟩:∃w1,w1=(((w.alloc (.cells #[.pointer R] 32)).alloc (.cells #[p,q] 27)).alloc (.cells #[.int .u16 (sa:Int),.int .u16 (sb:Int),.int .u8 (sc:Int),.int .u8 (sd:Int)] 30)).alloc (.cells #[.int .i64 0,.int .i64 0,.int .i64 0,.int .i64 0] 37):=⟨_,rfl⟩;have D1:Below w w w1:=by rw[hw1];exact Below.alloc' (Below.alloc' (Below.alloc' (Below.alloc' (Below.refl _ w) _) _) _) _
 have b0:Bz w1 w.heap.size #[.pointer R] 32:=by rw[hw1];exact(((Bz.new w _ _ _ rfl).al _).al _).al _
 have b1:Bz w1 (w.heap.size+1) #[p,q] 27:=by rw[hw1];exact((Bz.new _ _ _ _ (by simp)).al _).al _
 have b2:Bz w1 (w.heap.size+1+1) #[.int .u16 (sa:Int),.int .u16 (sb:Int),.int .u8 (sc:Int),.int .u8 (sd:Int)] 30:=by rw[hw1];exact(Bz.new _ _ _ _ (by simp)).al _
 have b3:Bz w1 (w.heap.size+1+1+1) #[.int .i64 0,.int .i64 0,.int .i64 0,.int .i64 0] 37:=by rw[hw1];exact Bz.new _ _ _ _ (by simp)
 have R1:=hRc.below D1;obtain⟨V,hV⟩:∃V:World->Prop,V=λW=>Below w1 w1 W:=⟨_,rfl⟩;have VD:Hd (∀W,V W->Below w w W):=⟨λW h=>by rw[hV]at h;exact ag h D1⟩;have VB:Hd (∀W W',V W->Below W W W'->V W'):=⟨λW W' h k=>by rw[hV]at h ⊢;exact ag k h⟩;have V1:V w1:=by rw[hV];exact Below.refl _ _
 have EA:Hd (Cl 29 #[.pointer R,.agg #[p,q],.func (.func 30) #[] #[.pointer (some ⟨w,0,none⟩),.pointer (some ⟨w.heap.size+1+1,0,none⟩)]] w1 λe w'=>∃k:Nat,e=.returned (.tuple #[(k:Int),.bool (decide (k<n+1))]) /\ Hd (Found1 (n+1) (λi=>someR ns (atN (s i) p q) sa sb sc sd) k) /\ V w'):=⟨by
  refine(Bp R1 hs hn (λf=>someR ns f sa sb sc sd) ⟨λf W hf hW=>wQ (R1.below hW).ar ((hW.block _ b0.lt).trans b0) ((hW.block _ b2.lt).trans b2) hf ha hb hc hd⟩ MO).mono λe w' ⟨k,h1,h2,h3⟩=>⟨k,h1,h2,by rw[hV];exact h3⟩⟩
 have RG:Hd (∀k,k<n+1->∃(g cap:Nat) (cs:Array Value),sl=.slice g (n+1) cap /\ n+1<=cap /\ cap<=9223372036854775807 /\ cs.size=40 /\ (∀W,V W->W.rangeAt g (k*40) cs.toList) /\ (∀W,CB 32 #[.agg cs,.agg #[p,q]] W (.int .i64 (atN (s k) p q:Int))) /\ (∀W,V W->Cl 31 #[.pointer R,.int .i64 (atN (s k) p q:Int),mt sa sb sc sd] W λe w'=>∃(o:Nat) (s':Bool),e=.returned (.tuple #[(o:Int),.bool s']) /\ Hid (LeastV (λx=>ev ns (atN (s k) p q) x&&phi sa sb sc sd x) o s') /\ Below W W w')):=⟨λk hk=>by
  obtain⟨g,cap,h1,lg,hcap,hcm,hlen,hcell⟩:=R1.sl;unfold maxLen at hcm;refine⟨g,cap,((xs.drop (k*40)).take 40).toArray,h1,hcap,hcm,(hs.out.sets hk hlen).1,λW hW j v hj=>?_,λW=>jE _ (s k) p q W (hs.out.sets hk hlen),λW hW=>?_⟩
  ·have h2:(xs.drop (k*40))[j]?=some v:=by
    have hj':((xs.drop (k*40)).take 40)[j]?=some v:=by simpa using hj
    rw[List.getElem?_take]at hj'
    split at hj'
    ·exact hj'
    ·cases hj'
   rw[List.getElem?_drop]at h2;rw[hV]at hW;exact aK hW (hcell _ _ h2)
  ·rw[hV]at hW;exact om (R1.below hW).ar (hs.out.at_lt hk R1.ar.wf p q) sa sb sc sd ha hb hc hd⟩
 have VC:Hd (∀W,V W->W.cell? ⟨w,0,none⟩=some (.pointer R) /\ W.cell? ⟨w.heap.size+1,0,none⟩=some (.int .i64 p) /\ W.cell? ⟨w.heap.size+1,1,none⟩=some (.int .i64 q) /\ W.cell? ⟨w.heap.size+1+1,0,none⟩=some (.int .u16 (sa:Int)) /\ W.cell? ⟨w.heap.size+1+1,1,none⟩=some (.int .u16 (sb:Int)) /\ W.cell? ⟨w.heap.size+1+1,2,none⟩=some (.int .u8 (sc:Int)) /\ W.cell? ⟨w.heap.size+1+1,3,none⟩=some (.int .u8 (sd:Int)) /\ W.cell? ⟨R,4,none⟩=some sl):=⟨λW h=>by
  rw[hV]at h;exact⟨aK h (b0.cell 0 _ rfl),aK h (b1.cell 0 _ rfl),aK h (b1.cell 1 _ rfl),aK h (b2.cell 0 _ rfl),aK h (b2.cell 1 _ rfl),aK h (b2.cell 2 _ rfl),aK h (b2.cell 3 _ rfl),aK h R1.c4⟩⟩
 have VP:Hd (∀W,V W->Bz W (w.heap.size+1+1+1) #[.int .i64 0,.int .i64 0,.int .i64 0,.int .i64 0] 37):=⟨λW h=>by
  rw[hV]at h;exact(h.block _ b3.lt).trans b3⟩
 have PF:Hd (∀(c:Nat) (W:World),c<16384->CB 33 #[(c:Int)] W (.tuple #[jj c,.int .i64 0])):=⟨λc W hc=>wP c W hc⟩;have hR:R<w.heap.size:=hRc.lt;obtain⟨c0,c1,c2,c3,c4,c5,c6,c7⟩:=VC.out w1 V1;clear hV R1 hRc hs MO b0 b1 b2 b3 D1;subst hw1;go_enter func8,ntmps8;go_wp2_with fail;refine EA.out.mono ?_;rintro e w2⟨k,rfl,F2,V2⟩;clear EA c0 c1 c2 c3 c4 c5 c6 c7 V1;by_cases hk:k<n+1
 ·have t1:decide (k<n+1)=true:=by simp[hk]
  rw[t1];obtain⟨g,cap,cs,rfl,hcap,hcm,h40',RG0,AT0,LE0⟩:=RG.out k hk;have h40:Hd (cs.size=40):=⟨h40'⟩;have AT:=Hd.mk AT0;have LE:=Hd.mk LE0;have KS:Hd (∀W,V W->(λW=>W.cell? ⟨w,0,none⟩=some (.pointer R) /\ W.cell? ⟨R,4,none⟩=some (.slice g (n+1) cap) /\ W.cell? ⟨w.heap.size+1,0,none⟩=some (.int .i64 p) /\ W.cell? ⟨w.heap.size+1,1,none⟩=some (.int .i64 q) /\ W.cell? ⟨w.heap.size+1+1,0,none⟩=some (.int .u16 (sa:Int)) /\ W.cell? ⟨w.heap.size+1+1,1,none⟩=some (.int .u16 (sb:Int)) /\ W.cell? ⟨w.heap.size+1+1,2,none⟩=some (.int .u8 (sc:Int)) /\ W.cell? ⟨w.heap.size+1+1,3,none⟩=some (.int .u8 (sd:Int)) /\ Hd (W.rangeAt g (k*40) cs.toList)) W):=⟨λW h=>by
   obtain⟨c0,c1,c2,c3,c4,c5,c6,c7⟩:=VC.out W h;exact⟨c0,c7,c1,c2,c3,c4,c5,c6,⟨RG0 W h⟩⟩⟩
  clear h40' RG0 AT0 LE0 RG t1 VC;have i1:(k:Int)<(n:Int)+1:=by omega
  have i2:(0:Int)<=(k:Int):=by omega
  have FR:Hd (∀o s',LeastV (λx=>ev ns (atN (s k) p q) x&&phi sa sb sc sd x) o s'->o<16384 /\ ii n (λi=>someR ns (atN (s i) p q) sa sb sc sd) (λi x=>ev ns (atN (s i) p q) x&&phi sa sb sc sd x) (.tuple #[jj o,.bool true])):=⟨λo s' h=>by
   have hs':=h.someR;have hP:=F2.out.2.2 k (Nat.le_refl _) hk;dsimp only at hP;rw[hP]at hs';subst hs';rcases h with⟨h1,_⟩|⟨_,h1,h2,h3⟩
   ·cases h1
   ·exact⟨h1,k,F2.out,Or.inl ⟨hk,o,⟨h1,h2,h3⟩,rfl⟩⟩⟩
  obtain⟨FRR,hFRR⟩:∃F,F=ii n (λi=>someR ns (atN (s i) p q) sa sb sc sd) (λi x=>ev ns (atN (s i) p q) x&&phi sa sb sc sd x):=⟨_,rfl⟩;rw[<- hFRR]at FR;generalize LeastV (λx=>ev ns (atN (s k) p q) x&&phi sa sb sc sd x)=LV at *;generalize atN (s k) p q=fk at *;clear F2;go_upto_region 4 with fail;have V3:=VB.out _ _ V2 (Below.refl _ _).drew;have S0:=KS.out _ V3;refine wp_region_held_drew (S:=(λW=>W.cell? ⟨w,0,none⟩=some (.pointer R) /\ W.cell? ⟨R,4,none⟩=some (.slice g (n+1) cap) /\ W.cell? ⟨w.heap.size+1,0,none⟩=some (.int .i64 p) /\ W.cell? ⟨w.heap.size+1,1,none⟩=some (.int .i64 q) /\ W.cell? ⟨w.heap.size+1+1,0,none⟩=some (.int .u16 (sa:Int)) /\ W.cell? ⟨w.heap.size+1+1,1,none⟩=some (.int .u16 (sb:Int)) /\ W.cell? ⟨w.heap.size+1+1,2,none⟩=some (.int .u8 (sc:Int)) /\ W.cell? ⟨w.heap.size+1+1,3,none⟩=some (.int .u8 (sd:Int)) /\ Hd (W.rangeAt g (k*40) cs.toList))) (by kernel_rfl) S0 (λhHeld=>?_);refine tk 0 ?_;try simp only[ly]
  refine tk 1 ?_;try simp only[ly]
  refine tk 2 ?_;try simp only[ly]
  refine tk 3 ?_;try simp only[ly]
  refine tk 4 ?_;try simp only[ly]
  refine tk 5 ?_;try simp only[ly]
  refine tk 6 ?_;try simp only[ly]
  refine tk 8 ?_;try simp only[ly]
  refine tk 10 ?_;try simp only[ly]
  refine' wpAnyH_take (i:=7) (v:=.agg cs) rfl (by kernel_rfl) (by kernel_rfl) (by kernel_rfl) (λ_ _ _ h=>h) (yieldsIf_load_mid (by rfl) 89 _ rfl g (k*40) rfl cs.toList _ (λW hS=>nine_last hS) bQ rfl (by rw[Array.length_toList,h40.out];exact db)) ‹_› ?_;try simp only[ly]
  refine rd 9 (λK hK=>?_);go_simp;with_reducible refine(AT.out _).mono ?_
  rintro e w4⟨rfl,hb4⟩;have V4:=VB.out _ _ V3 hb4;have S4:=KS.out _ V4;dsimp only;clear hHeld;refine hK.out _ _ S4 (λhHeld=>?_);clear hK K;try simp only[ly]
  refine rd 11 (λK hK=>?_);go_simp;with_reducible refine(LE.out _ V4).mono ?_
  rintro e w5⟨o,s',rfl,L5,hb5⟩;have V5:=VB.out _ _ V4 hb5;have S5:=KS.out _ V5;dsimp only;clear hHeld;refine hK.out _ _ S5 (λhHeld=>?_);clear hK K;try simp only[ly]
  refine tk 12 ?_;try simp only[ly]
  refine tk 13 ?_;try simp only[ly]
  refine tk 14 ?_;try simp only[ly]
  refine tk 15 ?_;try simp only[ly]
  refine tk 16 ?_;try simp only[ly]
  refine wpAnyH_done (by kernel_rfl) ?_ _;obtain⟨ho,F6'⟩:=FR.out o s' L5.out;have PO:=Hd.mk (PF.out o w5 ho);have F6:=Hd.mk F6';clear F6';clear FR LE AT KS PF hHeld S0 S4 S5;unfold jj at PO F6;rw[show((o / 1024:Nat):Int)=(o:Int) / 1024 by omega,show((o / 64 % 16:Nat):Int)=(o:Int) / 64 % 16 by omega,show((o / 8 % 8:Nat):Int)=(o:Int) / 8 % 8 by omega,show((o % 8:Nat):Int)=(o:Int) % 8 by omega]at F6;go_wp2_with fail;refine PO.out.mono ?_;rintro e w6⟨rfl,hb6⟩;have V6:=VB.out _ _ V5 hb6;have B6:=VP.out _ V6;have D6:=VD.out _ V6;have l6:w.heap.size+1+1+1<w6.heap.size:=B6.lt;obtain⟨⟨q0,q1,q2,q3⟩,qf,_⟩:=oo B6;have f0:=qf 0;have f1:=qf 1;have f2:=qf 2;have f3:=qf 3;have D7:=Below.alloc' D6 (.cells #[.int .i64 ((o / 1024:Nat):Int),.int .i64 ((o / 64 % 16:Nat):Int),.int .i64 ((o / 8 % 8:Nat):Int),.int .i64 ((o % 8:Nat):Int)] 37);clear PO VP B6;go_wp2_with fail;refine bodyPost_ret (v:=.tuple #[pk ((o:Int) / 1024) ((o:Int) / 64 % 16) ((o:Int) / 8 % 8) ((o:Int) % 8),.bool true]) (by simp[results,results8,go_sem,l6,q0,q1,q2,q3]) rfl ⟨_,rfl,by rw[<- hFRR];exact F6,?_⟩;exact Below.alloc' ((((D6.setCell (by simp;omega) _).setCell (by simp;omega) _).setCell (by simp;omega) _).setCell (by simp;omega) _) _
 ·have t1:decide (k<n+1)=false:=by simp[hk]
  rw[t1];have F6:Hd (ii n (λi=>someR ns (atN (s i) p q) sa sb sc sd) (λi x=>ev ns (atN (s i) p q) x&&phi sa sb sc sd x) (.tuple #[pk 0 0 0 0,.bool false])):=⟨⟨k,F2.out,Or.inr ⟨hk,rfl⟩⟩⟩;have B6:=VP.out _ V2;have D6:=VD.out _ V2;obtain⟨⟨q0,q1,q2,q3⟩,qf,_⟩:=oo B6;have f0:=qf 0;have f1:=qf 1;have f2:=qf 2;have f3:=qf 3;clear RG VC VP PF F2 B6;go_wp2_with fail;refine bodyPost_ret (v:=.tuple #[pk 0 0 0 0,.bool false]) (by simp[results,results8,go_sem,q0,q1,q2,q3]) rfl ⟨_,rfl,F6,?_⟩;exact(((D6.setCell (by simp;omega) _).setCell (by simp;omega) _).setCell (by simp;omega) _).setCell (by simp;omega) _
abbrev pkO(c:Nat):Pk:=⟨((c / 1024:Nat):Int),((c / 64 % 16:Nat):Int),((c / 8 % 8:Nat):Int),((c % 8:Nat):Int)⟩
theorem wT{c:Nat}(h:c<16384):ae (pkO c)=true:=by
 unfold ae adB poB;simp;omega
theorem ot{p:Pk}(h:ae p=true):pkO (codeR p.s p.d p.sp p.dp)=p /\ codeR p.s p.d p.sp p.dp<16384:=by
 have h':=h;unfold ae adB poB at h';simp at h';obtain⟨s,d,sp,dp⟩:=p;dsimp only at h' ⊢;unfold codeR pkO;refine⟨?_,by omega⟩
 congr 1 <;> omega
theorem wU(c:Nat):codeR (pkO c).s (pkO c).d (pkO c).sp (pkO c).dp=c:=by
 unfold codeR;dsimp only;omega
section
variable {ds:List Dv}{ls:List Lk}{K:Nat}{t:Int × Int}{sa sb sc sd:Nat}
theorem ov(i:Nat){p:Pk}(h:ae p=true):atF ds ls i t.1 t.2 (envOf 14 (codeR p.s p.d p.sp p.dp))=true ↔ ay ds ls i t p:=by
 unfold ay;rw[L14.at t.1 t.2 _ _ (oX h)]
theorem ox{p:Pk}(h:ae p=true):phi sa sb sc sd (envOf 14 (codeR p.s p.d p.sp p.dp))=inM sa sb sc sd p:=by
 obtain⟨e,hl⟩:=ot h;rw[xX _ _ _ _ _ hl];unfold inM;generalize codeR p.s p.d p.sp p.dp=c at e hl;subst e;simp only[Int.toNat_natCast,Bool.and_assoc]
theorem wV{P:Nat->Bool}{φ:Nat->Env->Bool}{v:Value}(hP:∀i,i<K+1->(P i=true ↔ ∃b,b<16384 /\ φ i (envOf 14 b)=true))(hφ:∀i,i<K+1->φ i=λx=>atF ds ls i t.1 t.2 x&&phi sa sb sc sd x)(h:ii K P φ v) :
  ∃(r:Option Pk) (x:Pk) (ok:Bool),v=.tuple #[pkV x,.bool ok] /\ Hid (fh (rdF ds ls K) t sa sb sc sd r /\ x=r.getD zeroP /\ ok=r.isSome):=by
 have yes:∀(j:Nat) (p:Pk),j<K+1->ae p=true->inM sa sb sc sd p=true->ay ds ls j t p->P j=true:=λj p hj hp hm hs=>by
  refine(hP j hj).2 ⟨_,(ot hp).2,?_⟩;rw[hφ j hj];dsimp only;rw[(ov j hp).2 hs,ox hp,hm];rfl
 obtain⟨k,⟨k1,k2,k3⟩,⟨hk,o,⟨o1,o2,_⟩,rfl⟩|⟨hk,rfl⟩⟩:=h
 ·refine⟨some (pkO o),pkO o,true,rfl,?_,rfl,rfl⟩;have ho:=wT o1;rw[hφ k hk]at o2;dsimp only at o2;rw[Bool.and_eq_true]at o2;have oc:=wU o;have a1:ay ds ls k t (pkO o):=(ov k ho).1 (by rw[oc];exact o2.1);have a2:inM sa sb sc sd (pkO o)=true:=by
   rw[<- ox ho,oc];exact o2.2
  obtain⟨b1,b2⟩:=km (K:=K) (x:=(t,pkO o)) (by omega) ho a1;refine⟨ho,a2,b1,λq hq hm h0=>?_⟩;obtain⟨j,hj,hjK,_,hs,_⟩:=fS h0;by_cases hjk:j<k
  ·have:=yes j q (by omega) hq hm hs;rw[k2 j hjk]at this;cases this
  ·omega
 ·refine⟨none,zeroP,false,rfl,λp hp hm=>?_,rfl,rfl⟩;by_cases h0:0<=rdF ds ls K (t,p)
  ·obtain⟨j,hj,hjK,_,hs,_⟩:=fS h0;have:=yes j p (by omega) hp hm hs;rw[k2 j (by omega)]at this;cases this
  ·omega
variable {bR R MR a7:Nat}{sl:Value}{xs:List Value}{ns:List Nd}{s:Nat->Nat->Nat->Nat}{w:World}
theorem wW(h:RcF ds ls bR R MR a7 K sl xs ns s w):RdC R (rdF ds ls K) w:=λx _ hb=>ua (h.below hb) x
theorem wX(h':RcF ds ls bR R MR a7 K sl xs ns s w):FstC R (rdF ds ls K) w:=λt sa sb sc sd _ hb ha hb' hc hd=>by
 have h:=h'.below hb;have hP:∀i,someR ns (atN (s i) t.1 t.2) sa sb sc sd=true ↔ ∃b,b<16384 /\ (ev ns (atN (s i) t.1 t.2) (envOf 14 b)&&phi sa sb sc sd (envOf 14 b))=true:=λi=>by
  unfold someR;simp
 refine(wS (p:=t.1) (q:=t.2) h.rc ⟨h.hist⟩ h.lt ha hb' hc hd ⟨λi j hij hj he=>?_⟩).mono λe w' ⟨v,h1,h2,h3⟩=>⟨?_,h3⟩
 ·obtain⟨b,hb,e⟩:=(hP i).1 he;refine(hP j).2 ⟨b,hb,?_⟩;rw[Bool.and_eq_true]at e ⊢;refine⟨?_,e.2⟩;rw[h.at hj];have:=e.1;rw[h.at (by omega)]at this;exact jU hij _ _ _ this
 ·obtain⟨r,x,ok,rfl,q⟩:=wV (λi _=>hP i) (λi hi=>by rw[h.at hi]) h2.out;exact⟨r,x,ok,h1,q⟩
end
def GoP(ds:List Dv)(ls:List Lk)(K:Nat)(x:Arv)(evs:List Ev)(s':Mnd × List Arv)(k:Nat)(M:Mnd)(ar:List Arv):Prop :=
 Runs ds ls (M,ar) (evs.drop k) s' /\ SInv ds ls K (M,ar) /\ x∈s'.2 /\ ar.length<=k /\ (k<evs.length->∃l0 z s1,evs.drop k=l0++[z] /\ Runs ds ls (M,ar) l0 s1 /\ x ∉ s1.2)
section
variable {ds:List Dv}{ls:List Lk}{K:Nat}{x:Arv}{evs:List Ev}{s':Mnd × List Arv}{k:Nat}{M:Mnd}{ar:List Arv}{e:Ev}
theorem oy(h:BrP ds ls K x (noM,[]) s' evs):GoP ds ls K x evs s' 0 noM [] /\ evs≠[]:=by
 rcases h.last with h1|⟨l0,z,s1,h1,h2,h3⟩
 ·cases h1
 ·refine⟨⟨h.run,pi,h.has,by simp,λ_=>⟨l0,z,s1,h1,h2,h3⟩⟩,?_⟩;rw[h1];simp
theorem wY(h:GoP ds ls K x evs s' evs.length M ar):x∈ar:=by
 obtain⟨h1,_,h3,_⟩:=h;rw[List.drop_length]at h1;obtain rfl:s'=(M,ar):=h1;exact h3
theorem wZ(hz:netV ds ls=0)(hI:Closed ds ls (ay ds ls K))(hk:evs[k]?=some e)(h:GoP ds ls K x evs s' k M ar):x ∉ ar /\ e.ok /\ (doP ds ls M ar e).1=0 /\ GoP ds ls K x evs s' (k+1) (doP ds ls M ar e).2.1 (doP ds ls M ar e).2.2:=by
 obtain⟨h1,h2,h3,h4,h5⟩:=h;obtain⟨hl,hv⟩:=List.getElem?_eq_some_iff.1 hk;have hc:evs.drop k=e::evs.drop (k+1):=by
  rw[<- hv];exact List.drop_eq_getElem_cons hl
 obtain⟨l0,z,s1,g1,g2,g3⟩:=h5 hl;rw[hc]at h1 g1;have hx:x ∉ ar:=λhx=>g3 ((Runs.all hz hI h2 g2).2.1 x hx);have hd:=mu hz h2 e;dsimp only at hd;refine⟨hx,h1.1.2,h1.1.1,h1.2,h2.act hz hI e,h3,by omega,λhk1=>?_⟩;cases l0 with
 | nil =>
   simp only[List.nil_append,List.cons.injEq]at g1;have:=congrArg List.length g1.2;simp at this;omega
 | cons y l0 =>
   simp only[List.cons_append,List.cons.injEq]at g1;obtain⟨rfl,g1⟩:=g1;exact⟨l0,z,s1,g1,g2.2,g3⟩
end
theorem xa(A L:Option Addr)(cap e9:Nat)(ds:List Dv)(ls:List Lk)(t1 t2:Int)(sa sb sc sd:Nat)(w:World)(hD:Hid (Devs w w (.slice A ds.length cap) ds))(hL:Hid (Links w w (.slice L ls.length e9) ls))(h1:aj t1)(h2:aj t2)(ha:sa<65536)(hb:sb<65536)(hc:sc<256)(hd:sd<256) :
  CB 3 #[.agg #[.slice A ds.length cap,.slice L ls.length e9],.agg #[t1,t2],mtV sa sb sc sd] w (.bool true):=by
 have RUN:Hid (∀W,CB 6 #[] W (.bool true)):=λW=>tY W;have RE:Hid (∀W,CB 5 #[] W (.bool true)):=λW=>yD W;have NW:Hid (∀(W:World),Below w w W->Cl 10 #[.agg #[.slice A ds.length cap,.slice L ls.length e9]] W (WNew W ds ls)):=λW h=>kg A L cap e9 ds ls W ((hD.out.below h).mono h.size) ((hL.out.below h).mono h.size);have RN:Hid (∀(W:World),Below w w W->Cl 7 #[.agg #[.slice A ds.length cap,.slice L ls.length e9],.int .i64 40000] W λe w'=>Below W W w' /\ ((∃R K:Nat,e=.returned (.tuple #[.pointer R,.int .i64 0]) /\ Hid (netV ds ls=0 /\ Closed ds ls (ay ds ls K) /\ FstC R (rdF ds ls K) w' /\ RdC R (rdF ds ls K) w'))\/∃er:Int,e=.returned (.tuple #[.pointer none,er]) /\ er≠0)):=λW h=>(yG A L cap e9 ds ls W ((hD.out.below h).mono h.size) ((hL.out.below h).mono h.size)).mono λe w' ⟨g1,g2⟩=>⟨g1,by
  rcases g2 with⟨bR,R,MR,K,sl,xs,ns,s,e1,hz,hF⟩|⟨er,e1,e2,_⟩
  ·exact Or.inl ⟨R,K,e1,hz,yI hz hF.fix,wX hF,wW hF⟩
  ·exact Or.inr ⟨er,e1,e2⟩⟩
 have OF:Hid (∀(R K:Nat) (x:Arv) (W:World),Below w w W->Hid (netV ds ls=0 /\ Closed ds ls (ay ds ls K) /\ FstC R (rdF ds ls K) W /\ RdC R (rdF ds ls K) W)->Cl 9 #[.agg #[.slice A ds.length cap,.slice L ls.length e9],.pointer R,plA x.1.1 x.1.2,pkV x.2] W λe w'=>Hid (WiP ds ls K 2000 x W e w') /\ Below W W w'):=λR K x W h hR=>wK x W hR.out.1 hR.out.2.1 (hidOf ((hD.out.below h).mono h.size)) (hidOf ((hL.out.below h).mono h.size)) (hidOf hR.out.2.2.1) (hidOf hR.out.2.2.2);have D0:=Below.alN (Below.alN (Below.alN (Below.refl w w) (.cells #[.slice A ds.length cap,.slice L ls.length e9] 25)) (.cells #[t1,t2] 27)) (.cells #[.int .u16 (sa:Int),.int .u16 (sb:Int),.int .u8 (sc:Int),.int .u8 (sd:Int)] 30);have N0:=((ah w #[.slice A ds.length cap,.slice L ls.length e9] 25).alloc (.cells #[t1,t2] 27)).alloc (.cells #[.int .u16 (sa:Int),.int .u16 (sb:Int),.int .u8 (sc:Int),.int .u8 (sd:Int)] 30);have P0:=(ax (w.alloc (.cells #[.slice A ds.length cap,.slice L ls.length e9] 25)) #[t1,t2] 27 (w.heap.size+1) (by simp)).alloc (.cells #[.int .u16 (sa:Int),.int .u16 (sb:Int),.int .u8 (sc:Int),.int .u8 (sd:Int)] 30);have M0:=ax ((w.alloc (.cells #[.slice A ds.length cap,.slice L ls.length e9] 25)).alloc (.cells #[t1,t2] 27)) #[.int .u16 (sa:Int),.int .u16 (sb:Int),.int .u8 (sc:Int),.int .u8 (sd:Int)] 30 (w.heap.size+1+1) (by simp);obtain⟨w1,hw1⟩:∃w1,w1=((w.alloc (.cells #[.slice A ds.length cap,.slice L ls.length e9] 25)).alloc (.cells #[t1,t2] 27)).alloc (.cells #[.int .u16 (sa:Int),.int .u16 (sb:Int),.int .u8 (sc:Int),.int .u8 (sd:Int)] 30):=⟨_,rfl⟩;rw[<- hw1]at D0 N0 P0 M0;have HC:Hid (∀W,Below w1 w1 W->W.cell? ⟨w,0,none⟩=some (.slice A ds.length cap) /\ W.cell? ⟨w,1,none⟩=some (.slice L ls.length e9) /\ W.cell? ⟨w.heap.size+1,0,none⟩=some (.int .i64 t1) /\ W.cell? ⟨w.heap.size+1,1,none⟩=some (.int .i64 t2) /\ W.cell? ⟨w.heap.size+1+1,0,none⟩=some (.int .u16 (sa:Int)) /\ W.cell? ⟨w.heap.size+1+1,1,none⟩=some (.int .u16 (sb:Int)) /\ W.cell? ⟨w.heap.size+1+1,2,none⟩=some (.int .u8 (sc:Int)) /\ W.cell? ⟨w.heap.size+1+1,3,none⟩=some (.int .u8 (sd:Int)) /\ w.heap.size+1+1<W.heap.size):=λW h=>by
  have n:=N0.keep h;have p:=P0.keep h;have m:=M0.keep h;exact⟨n.at 0,n.at 1,p.at 0,p.at 1,m.at 0,m.at 1,m.at 2,m.at 3,m.lt⟩
 have X0:Below w1 w1 w1:=Below.refl _ _;have DW:Hid (∀W,Below w1 w1 W->Below w w W):=λW h=>ag h D0;clear hD hL D0 N0 P0 M0;subst hw1;go_enter func3,ntmps3;go_wp2_with fail;refine(RE.out _).mono ?_;rintro e w2⟨rfl,hb2⟩;have X2:=ag hb2 X0;clear hb2 X0 RE;go_wp2_with fail;refine(RUN.out _).mono ?_;rintro e w3⟨rfl,hb3⟩;have X3:=ag hb3 X2;clear hb3 X2 RUN;obtain⟨n0,n1,_⟩:=HC.out _ X3;go_wp2_with fail;refine(RN.out _ (DW.out _ X3)).mono ?_;rintro e w4⟨hb4,hR⟩;have X4:=ag hb4 X3;clear hb4 X3 n0 n1 RN;rcases hR with⟨R,K,rfl,HR⟩|⟨er,rfl,hne⟩
 case inr =>
  have z1:(er == 0)=false:=by simpa using hne
  have z2:(er != 0)=true:=by simpa using hne
  have fin:=DW.out _ X4;clear NW OF HC DW X4 hne;go_wp2_with fail;go_ret;exact⟨rfl,fin⟩
 obtain⟨_,_,p0,p1,m0,m1,m2,m3,lt4⟩:=HC.out _ X4;have FI:Hid (Cl 8 #[.pointer R,plA t1 t2,mtV sa sb sc sd] w4 λe w'=>(∃(r:Option Pk) (x:Pk) (ok:Bool),e=.returned (.tuple #[pkV x,.bool ok]) /\ Hid (fh (rdF ds ls K) (t1,t2) sa sb sc sd r /\ x=r.getD zeroP /\ ok=r.isSome)) /\ Below w4 w4 w'):=hidOf (HR.out.2.2.1 (t1,t2) sa sb sc sd w4 (Below.refl _ _) ha hb hc hd);have RB:Hid (∀W,Below w4 w4 W->Hid (netV ds ls=0 /\ Closed ds ls (ay ds ls K) /\ FstC R (rdF ds ls K) W /\ RdC R (rdF ds ls K) W)):=hidOf λW h=>⟨HR.out.1,HR.out.2.1,HR.out.2.2.1.below h,HR.out.2.2.2.below h⟩;have HZ:Hid (netV ds ls=0 /\ Closed ds ls (ay ds ls K)):=⟨HR.out.1,HR.out.2.1⟩;have F4:Hid (Below w4 w4 w4):=Below.refl _ _;clear HR;go_wp2_with fail;refine FI.out.mono ?_;rintro e w5⟨⟨r,⟨xs,xd,xsp,xdp⟩,ok,rfl,hF⟩,hb5⟩;have X5:=Below.alN (ag hb5 X4) (.cells #[xs,xd,xsp,xdp] 37);have F5:=Below.alN (ag hb5 F4.out) (.cells #[xs,xd,xsp,xdp] 37);have Q5:=ah w5 #[xs,xd,xsp,xdp] 37;obtain⟨w6,hw6⟩:∃w6,w6=w5.alloc (.cells #[xs,xd,xsp,xdp] 37):=⟨_,rfl⟩;clear FI F4 hb5 X4 p0 p1 m0 m1 m2 m3 lt4;rw[<- hw6]at X5 F5 Q5;obtain⟨n0,n1,p0,p1,_,_,_,_,lt6⟩:=HC.out _ X5;obtain⟨q0,q1,q2,q3⟩:w6.cell? ⟨w5,0,none⟩=some (.int .i64 xs) /\ w6.cell? ⟨w5,1,none⟩=some (.int .i64 xd) /\ w6.cell? ⟨w5,2,none⟩=some (.int .i64 xsp) /\ w6.cell? ⟨w5,3,none⟩=some (.int .i64 xdp):=⟨Q5.at 0,Q5.at 1,Q5.at 2,Q5.at 3⟩;cases r with
 | none =>
   obtain⟨-,-,rfl⟩:=hF.out;have OFC:Hid (CB 9 #[.agg #[.slice A ds.length cap,.slice L ls.length e9],.pointer R,plA t1 t2,.agg #[.int .i64 (-1),.int .i64 0,.int .i64 0,.int .i64 0]] w6 (.tuple #[.slice none 0 0,.int .i64 4])):=(OF.out R K ((t1,t2),⟨-1,0,0,0⟩) w6 (DW.out _ X5) (RB.out _ F5)).mono λe w' ⟨g1,g2⟩=>⟨by
    have hneg:rdF ds ls K ((t1,t2),⟨-1,0,0,0⟩)<0:=by
     rcases gP ds ls K ((t1,t2),⟨-1,0,0,0⟩)with⟨h,_⟩|⟨j,_,_,h,_⟩
     ·omega
     ·exact absurd (show ae ⟨-1,0,0,0⟩=true from h) (by decide)
    rcases g1.out with⟨_,h⟩|⟨h,_⟩
    ·exact h
    ·omega,g2⟩
   clear OF RB HZ NW hF F5 Q5;subst hw6;go_wp2_with fail;refine OFC.out.mono ?_;rintro e w7⟨rfl,hb7⟩;have fin:=DW.out _ (ag hb7 X5);clear OFC hb7 X5 n0 n1 p0 p1 q0 q1 q2 q3;go_wp2_with fail;go_ret;exact⟨rfl,fin⟩
 | some x =>
   obtain⟨hf,hx,rfl⟩:=hF.out;obtain rfl:x=⟨xs,xd,xsp,xdp⟩:=hx.symm;have OFC:Hid (Cl 9 #[.agg #[.slice A ds.length cap,.slice L ls.length e9],.pointer R,plA t1 t2,.agg #[xs,xd,xsp,xdp]] w6 λe w'=>(e=.returned (.tuple #[.slice none 0 0,.int .i64 2])\/∃C cv evs s',e=.returned (.tuple #[.slice C evs.length cv,.int .i64 0]) /\ evs.length<=2000 /\ Hid (SlAt w' w' 8 eY (.slice C evs.length cv) evs /\ BrP ds ls K ((t1,t2),⟨xs,xd,xsp,xdp⟩) (noM,[]) s' evs)) /\ Below w6 w6 w'):=(OF.out R K ((t1,t2),⟨xs,xd,xsp,xdp⟩) w6 (DW.out _ X5) (RB.out _ F5)).mono λe w' ⟨g1,g2⟩=>⟨by
    rcases g1.out with⟨h,_⟩|⟨_,⟨_,h⟩|⟨v,evs,M,ar,h,g⟩⟩
    ·have:=hf.2.2.1;omega
    ·exact Or.inl h
    ·obtain⟨C,cv,rfl⟩:=dh g.out.1;exact Or.inr ⟨C,cv,evs,(M,ar),h,by have:=g.out.2.2;omega,EvRow.sl g.out.1,g.out.2.1⟩,g2⟩
   have HP:Hid (ae ⟨xs,xd,xsp,xdp⟩=true):=hf.1;clear OF RB hF hf hx F5;subst hw6;go_wp2_with fail;refine OFC.out.mono ?_;rintro e w7⟨hE,hb7⟩;have X7:=ag hb7 X5;have Q7:=Q5.keep hb7;clear OFC hb7 X5 Q5 n0 n1 p0 p1 q0 q1 q2 q3 lt6;rcases hE with rfl|⟨C,cv,evs,s',rfl,hlen,HE⟩
   ·have fin:=DW.out _ X7;clear NW HC Q7;go_wp2_with fail;all_goals
     go_ret;exact⟨rfl,fin⟩
   obtain⟨n0,n1,_⟩:=HC.out _ X7;have NWC:Hid (Cl 10 #[.agg #[.slice A ds.length cap,.slice L ls.length e9]] w7 (WNew w7 ds ls)):=NW.out _ (DW.out _ X7);have hne:((evs.length:Int) == 0)=false:=by
    have:=(oy HE.out.2).2;have:0<evs.length:=List.length_pos_iff.2 this;simp;omega
   clear NW;go_wp2_with fail;refine NWC.out.mono ?_;rintro e w8⟨hb8,hN⟩;rcases hN with⟨h,_⟩|⟨_,q,rfl,hW,l1,l2,l3,l4,l5⟩
   ·exact absurd HZ.out.1 h
   have LO:Hid (LoW w7 q):=⟨l1,l2,l3,l4,l5⟩;obtain⟨V,hV⟩:∃V:Nat->Mnd->List Arv->World->Prop,V=λn M ar W=>(∃S cS,WlAt W q S cS ds ls n M ar) /\ Below w7 w7 W:=⟨_,rfl⟩;have V8:V 0 noM [] w8:=by
    rw[hV];exact⟨⟨none,0,hW⟩,hb8⟩
   have KP:Hid (∀{n:Nat} {M:Mnd} {ar:List Arv} {W W':World},V n M ar W->Below W W W'->V n M ar W'):=λ{n M ar W W'} h hb=>by
    rw[hV]at h ⊢;obtain⟨⟨S,cS,h1⟩,h2⟩:=h;exact⟨⟨S,cS,h1.below hb⟩,ag hb h2⟩
   have BE:Hid (∀{n:Nat} {M:Mnd} {ar:List Arv} {W:World},V n M ar W->Below w w W):=λ{n M ar W} h=>by
    rw[hV]at h;exact DW.out _ (ag h.2 X7)
   have CE:Hid (∀{n:Nat} {M:Mnd} {ar:List Arv} {W:World},V n M ar W->W.cell? ⟨w.heap.size+1,0,none⟩=some (.int .i64 t1) /\ W.cell? ⟨w.heap.size+1,1,none⟩=some (.int .i64 t2) /\ W.cell? ⟨w5,0,none⟩=some (.int .i64 xs) /\ W.cell? ⟨w5,1,none⟩=some (.int .i64 xd) /\ W.cell? ⟨w5,2,none⟩=some (.int .i64 xsp) /\ W.cell? ⟨w5,3,none⟩=some (.int .i64 xdp)):=λ{n M ar W} h=>by
    rw[hV]at h;obtain⟨_,_,p0,p1,_⟩:=HC.out _ (ag h.2 X7);have Q:=Q7.keep h.2;exact⟨p0,p1,Q.at 0,Q.at 1,Q.at 2,Q.at 3⟩
   have EV:Hid (∀{n:Nat} {M:Mnd} {ar:List Arv} {W:World} {k:Nat} {y:Ev},V n M ar W->evs[k]?=some y->∃b o,C=some ⟨b,o,none⟩ /\ W.cell? ⟨b,o+k*8,none⟩=some (.int .i64 y.k) /\ W.cell? ⟨b,o+k*8+1,none⟩=some (.int .i64 y.i) /\ W.cell? ⟨b,o+k*8+2,none⟩=some (.int .i64 y.q) /\ W.cell? ⟨b,o+k*8+3,none⟩=some (.int .i64 y.p.s) /\ W.cell? ⟨b,o+k*8+4,none⟩=some (.int .i64 y.p.d) /\ W.cell? ⟨b,o+k*8+5,none⟩=some (.int .i64 y.p.sp) /\ W.cell? ⟨b,o+k*8+6,none⟩=some (.int .i64 y.p.dp) /\ W.cell? ⟨b,o+k*8+7,none⟩=some (.int .i64 y.c)):=λ{n M ar W k y} h hy=>by
    rw[hV]at h;obtain⟨b,o,e,hlb,c⟩:=SlAt.ev HE.out.1 hy;refine⟨b,o,e,?_⟩;obtain⟨c0,c1,c2,c3,c4,c5,c6,c7⟩:=c;have hb:=h.2;exact⟨(hb.cell (p:=⟨b,_,none⟩) hlb).trans c0,(hb.cell (p:=⟨b,_,none⟩) hlb).trans c1,(hb.cell (p:=⟨b,_,none⟩) hlb).trans c2,(hb.cell (p:=⟨b,_,none⟩) hlb).trans c3,(hb.cell (p:=⟨b,_,none⟩) hlb).trans c4,(hb.cell (p:=⟨b,_,none⟩) hlb).trans c5,(hb.cell (p:=⟨b,_,none⟩) hlb).trans c6,(hb.cell (p:=⟨b,_,none⟩) hlb).trans c7⟩
   have UX:Hid (∀{n0:Nat} {M0:Mnd} {ar0:List Arv} {W0:World} (cs:Array Value) (t:TypeId),V n0 M0 ar0 W0->∃U:Nat->Mnd->List Arv->World->Prop,U n0 M0 ar0 (W0.alloc (.cells cs t)) /\ (∀{n:Nat} {M:Mnd} {ar:List Arv} {W:World},U n M ar W->V n M ar W /\ Bk W W0.heap.size cs t) /\ (∀{n:Nat} {M:Mnd} {ar:List Arv} {W W':World},U n M ar W->Below W W W'->U n M ar W') /\ ∀{n:Nat} {M:Mnd} {ar:List Arv} {W:World} (y:Ev),y.ok->(doP ds ls M ar y).1=0->MOk M->n<=4010->ar.length<=5000->U n M ar W->Cl 12 #[.pointer (some ⟨q.B,0,none⟩),.agg #[.int .i64 y.k,.int .i64 y.i,.int .i64 y.q,.int .i64 y.p.s,.int .i64 y.p.d,.int .i64 y.p.sp,.int .i64 y.p.dp,.int .i64 y.c]] W λe w'=>e=.returned (.int .i64 0) /\ U (n+1+1) (doP ds ls M ar y).2.1 (doP ds ls M ar y).2.2 w'):=λ{n0 M0 ar0 W0} cs t h=>by
    rw[hV]at h;obtain⟨⟨S0,cS0,g0⟩,gb⟩:=h;have hqB:=g0.blk.lt;refine⟨λn M ar W=>(∃S cS,WlAt W q S cS ds ls n M ar /\ ∀a,S=some a->a.block≠W0.heap.size) /\ Below w7 w7 W /\ Bk W W0.heap.size cs t,⟨⟨S0,cS0,g0.alloc _,λa ha=>Nat.ne_of_lt (g0.sblk a ha).2⟩,ag (Below.alN (Below.refl _ _) _) gb,ah _ _ _⟩,λ{n M ar W} ⟨⟨S,cS,g1,_⟩,g2,g3⟩=>⟨by rw[hV];exact⟨⟨S,cS,g1⟩,g2⟩,g3⟩,λ{n M ar W W'} ⟨⟨S,cS,g1,gs⟩,g2,g3⟩ hb=>⟨⟨S,cS,g1.below hb,gs⟩,ag hb g2,g3.keep hb⟩,λ{n M ar W} y hy h0 hM hn ha ⟨⟨S,cS,g1,gs⟩,g2,g3⟩=>?_⟩;obtain⟨o1,o2⟩:=iW HZ.out.1 hM y.i y.q y.p y.c;refine(kv y W g1 hy HZ.out.1 (hidOf λhe=>⟨(o2 he).2.1,(o2 he).2.2,bm (o2 he).1⟩) (by unfold maxLen;omega) ha).mono λe w' ⟨e1,S',cS',q1,q2,q3⟩=>?_;rw[h0]at e1;refine⟨e1,⟨S',cS',q1,λa ha=>?_⟩,kh g1 LO.out g2 q2,ki g1 g3 hqB gs q2⟩;have hz:=g3.lt;rcases q3 a ha with⟨a',e1,e2⟩|hl
    ·rw[<- e2];exact gs a' e1
    ·omega
   have HASB:Hid (∀{n:Nat} {M:Mnd} {ar:List Arv} {W:World} (b:Bool),(b=true ↔ (((t1,t2),⟨xs,xd,xsp,xdp⟩):Arv)∈ar)->V n M ar W->CB 11 #[.pointer (some ⟨q.B,0,none⟩),plA t1 t2,.agg #[xs,xd,xsp,xdp]] W (.bool b)):=λ{n M ar W} b hb h=>by
    rw[hV]at h;obtain⟨⟨S,cS,g1⟩,g2⟩:=h;refine(gZ ((t1,t2),⟨xs,xd,xsp,xdp⟩) W g1 ⟨h1,h2,bm HP.out⟩).mono λe w' ⟨e1,e2⟩=>⟨?_,e2⟩;rw[e1];have:(inF ar ((t1,t2),⟨xs,xd,xsp,xdp⟩)).isSome=b:=by
     rw[Bool.eq_iff_iff,hb];exact inF_in
    rw[this]
   have HAS:Hid (∀{n:Nat} {M:Mnd} {ar:List Arv} {W:World} (b:Bool),(b=true ↔ (((t1,t2),⟨xs,xd,xsp,xdp⟩):Arv)∈ar)->V n M ar W->Cl 11 #[.pointer (some ⟨q.B,0,none⟩),plA t1 t2,.agg #[xs,xd,xsp,xdp]] W λe w'=>e=.returned (.bool b) /\ V n M ar w'):=λ{n M ar W} b hb h=>(HASB.out b hb h).mono λe w' ⟨e1,e2⟩=>⟨e1,KP.out h e2⟩;have G0:Hid (GoP ds ls K ((t1,t2),⟨xs,xd,xsp,xdp⟩) evs s' 0 noM []):=(oy HE.out.2).1;clear hV hW hb8 l1 l2 l3 l4 l5 HC NWC X7 Q7 HE n0 n1 DW LO HP;go_wp2_with fail;go_loopw[80] (λi wr=>∃(k n:Nat) (M:Mnd) (ar:List Arv),i=.int .i64 (k:Int) /\ k<=evs.length /\ n<=2*k /\ V n M ar wr /\ Hid (GoP ds ls K ((t1,t2),⟨xs,xd,xsp,xdp⟩) evs s' k M ar)) (λi _=>evs.length-(intOf i).toNat)
   case atStart=>exact⟨0,0,noM,[],rfl,by omega,by omega,V8,G0⟩
   case round =>
    clear V8 G0;obtain⟨k,n,M,ar,rfl,hk,hn,V1,G1⟩:=hrel;by_cases hlt:k<evs.length
    ·obtain⟨y,hy⟩:∃y,evs[k]?=some y:=⟨_,List.getElem?_eq_getElem hlt⟩;obtain⟨hnx,hyo,hd0,G2⟩:=wZ HZ.out.1 HZ.out.2 hy G1.out;obtain⟨b,o,rfl,c0,c1,c2,c3,c4,c5,c6,c7⟩:=EV.out V1 hy;have k1:(0:Int)<=(k:Int):=by omega
     have k2:(k:Int)<(evs.length:Int):=by omega
     have hM:=G1.out.2.1.mok;have hal:=G1.out.2.2.2.1;obtain⟨U,U2,UV,UB,UD⟩:=UX.out #[.int .i64 y.k,.int .i64 y.i,.int .i64 y.q,.int .i64 y.p.s,.int .i64 y.p.d,.int .i64 y.p.sp,.int .i64 y.p.dp,.int .i64 y.c] 47 V1;have HA:Hid (∀W,U n M ar W->Cl 11 #[.pointer (some ⟨q.B,0,none⟩),plA t1 t2,.agg #[xs,xd,xsp,xdp]] W λe w'=>e=.returned (.bool false) /\ U n M ar w'):=hidOf λW h=>(HASB.out false ⟨λe=>(by cases e),λe=>absurd e hnx⟩ (UV h).1).mono λe w' ⟨e1,e2⟩=>⟨e1,UB h e2⟩;have DO:Hid (∀W,U n M ar W->Cl 12 #[.pointer (some ⟨q.B,0,none⟩),.agg #[.int .i64 y.k,.int .i64 y.i,.int .i64 y.q,.int .i64 y.p.s,.int .i64 y.p.d,.int .i64 y.p.sp,.int .i64 y.p.dp,.int .i64 y.c]] W λe w'=>e=.returned (.int .i64 0) /\ U (n+1+1) (doP ds ls M ar y).2.1 (doP ds ls M ar y).2.2 w'):=hidOf λW h=>UD y hyo hd0 hM (by omega) (by omega) h;have SC:Hid (∀{n:Nat} {M:Mnd} {ar:List Arv} {W:World},U n M ar W->W.cell? ⟨w.heap.size+1,0,none⟩=some (.int .i64 t1) /\ W.cell? ⟨w.heap.size+1,1,none⟩=some (.int .i64 t2) /\ W.cell? ⟨w5,0,none⟩=some (.int .i64 xs) /\ W.cell? ⟨w5,1,none⟩=some (.int .i64 xd) /\ W.cell? ⟨w5,2,none⟩=some (.int .i64 xsp) /\ W.cell? ⟨w5,3,none⟩=some (.int .i64 xdp) /\ W.cell? ⟨wr,0,none⟩=some (.int .i64 y.k) /\ W.cell? ⟨wr,1,none⟩=some (.int .i64 y.i) /\ W.cell? ⟨wr,2,none⟩=some (.int .i64 y.q) /\ W.cell? ⟨wr,3,none⟩=some (.int .i64 y.p.s) /\ W.cell? ⟨wr,4,none⟩=some (.int .i64 y.p.d) /\ W.cell? ⟨wr,5,none⟩=some (.int .i64 y.p.sp) /\ W.cell? ⟨wr,6,none⟩=some (.int .i64 y.p.dp) /\ W.cell? ⟨wr,7,none⟩=some (.int .i64 y.c)):=λ{n M ar W} h=>by
      obtain⟨a0,a1,a2,a3,a4,a5⟩:=CE.out (UV h).1;have Y:=(UV h).2;exact⟨a0,a1,a2,a3,a4,a5,Y.at 0,Y.at 1,Y.at 2,Y.at 3,Y.at 4,Y.at 5,Y.at 6,Y.at 7⟩
     have FIN:Hid (∀{W:World},U (n+1+1) (doP ds ls M ar y).2.1 (doP ds ls M ar y).2.2 W->V (n+1+1) (doP ds ls M ar y).2.1 (doP ds ls M ar y).2.2 W):=λ{W} h=>(UV h).1;have HG2:=hidOf G2;obtain⟨yk,yi,yq,⟨ys,yd,ysp,ydp⟩,yc⟩:=y;dsimp only at c0 c1 c2 c3 c4 c5 c6 c7 DO SC;obtain⟨p0,p1,q0,q1,q2,q3,e0,e1,e2,e3,e4,e5,e6,e7⟩:=SC.out U2;clear UX EV G1 G2 HAS HASB KP BE CE V1 UV UB UD hM hal hnx hyo hd0 hy;go_wp2_with fail;refine(HA.out _ U2).mono ?_;rintro e w9⟨rfl,U9⟩;clear U2 p0 p1 q0 q1 q2 q3 e0 e1 e2 e3 e4 e5 e6 e7 c0 c1 c2 c3 c4 c5 c6 c7;obtain⟨p0,p1,q0,q1,q2,q3,e0,e1,e2,e3,e4,e5,e6,e7⟩:=SC.out U9;go_wp2_with fail;refine(DO.out _ U9).mono ?_;rintro e w10⟨rfl,U10⟩;have V10:=FIN.out U10;clear SC DO HA U9 U10 FIN p0 p1 q0 q1 q2 q3 e0 e1 e2 e3 e4 e5 e6 e7;go_wp2_with fail;go_roundw
     case rel=>exact⟨k+1,n+1+1,_,_,by go_num,by omega,by omega,V10,HG2⟩
     case measure=>simp[intOf];omega
    ·obtain rfl:k=evs.length:=by omega
     have hx:=wY G1.out;have HA:Hid (Cl 11 #[.pointer (some ⟨q.B,0,none⟩),plA t1 t2,.agg #[xs,xd,xsp,xdp]] wr λe w'=>e=.returned (.bool true) /\ V n M ar w'):=HAS.out true ⟨λ_=>hx,λ_=>rfl⟩ V1;obtain⟨p0,p1,q0,q1,q2,q3⟩:=CE.out V1;clear HAS HASB UX EV G1 hx KP;go_wp2_with fail;refine HA.out.mono ?_;rintro e w9⟨rfl,V9⟩;have fin:=BE.out V9;clear BE CE HA V9 V1;go_wp2_with fail;go_ret;exact⟨rfl,fin⟩
end Go.Proofs.YtjmclcmgpaofiaaGreat
