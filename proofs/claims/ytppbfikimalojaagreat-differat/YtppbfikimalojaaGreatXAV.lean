/-
  XAV.
-/
import Derived.Test.YtppbfikimalojaaGreatXAU
import Derived.Test.YtppbfikimalojaaGreatXLy
import Derived.Test.YtppbfikimalojaaGreatXAT
import Derived.Test.YtppbfikimalojaaGreatXAQ
set_option maxHeartbeats 8000000
set_option maxRecDepth 100000
namespace Go.Proofs.YtppbfikimalojaaGreat
open Tryz
open Go.RowKit Go.Maps
theorem vf{ds:List Dv}{ls:List Lk}(hz:netV ds ls=0){k:Nat}(hk:k<ds.length):∀l∈ls,l.a∈wholeF ds ls (k:Int)->l.b∈wholeF ds ls (k:Int):=λl hl hm=>by
 have h10:=(l7 hz).1;have C:Comp ds ls (k:Int) (aroundF ds ls 10 0 [(k:Int)]):=by
  rw[fA];exact dM _ (λd f=>fv hz _) (λd f l hl=>by
   obtain⟨c1,c2⟩:=gP (d:=d) (f:=f) hz l hl;exact⟨λh=>Or.inl (c1 h),λh=>c2 h⟩) 10 0 _ (by omega) (FOk.one hk) (by simp) (λP hP _ x hx=>by
    rw[List.mem_singleton.1 hx];exact hP) (λj x hj=>by omega)
 unfold wholeF at hm ⊢;rw[List.mem_mergeSort]at hm ⊢;exact(C.closed l hl).1 hm
def fW(w:World)(ds:List Dv)(ls:List Lk)(F:List Int)(e:Ending)(w':World):Prop :=
 ∃(A1 A2:Option Addr) (c1 c2 g c:Nat),e=.returned (.tuple #[.agg #[.slice A1 (e8 ds F).length c1,.slice A2 (e9 ls F).length c2],.slice (some ⟨g,0,none⟩) F.length c])/\Below w.heap.size w w'/\Hid (Devs w'.heap.size w' (.slice A1 (e8 ds F).length c1) (e8 ds F)/\Links w'.heap.size w' (.slice A2 (e9 ls F).length c2) (e9 ls F)/\SlAt w'.heap.size w' 1 IsI (.slice (some ⟨g,0,none⟩) F.length c) F)
theorem Ds2.same{w W:World}{vd vl vI vm vk:Value}{F:List Int}{gs:List Dv}{ms:List Lk}(h:Ds2 w vd vl vI F vm vk gs ms W):Ds2 w vd vl vI F vm vk gs ms ((W.setCell ⟨w.heap.size+1,0,none⟩ vm).setCell ⟨w.heap.size+1,1,none⟩ vk):=by
 have hF:∀i,i≠w.heap.size+1->((W.setCell ⟨w.heap.size+1,0,none⟩ vm).setCell ⟨w.heap.size+1,1,none⟩ vk).heap[i]?=W.heap[i]?:=λi hi=>(Below.heap_setCell _ ⟨w.heap.size+1,1,none⟩ _ i hi).trans (Below.heap_setCell W ⟨w.heap.size+1,0,none⟩ _ i hi);obtain⟨cs,h1,h2⟩:=h.rd;have kp:∀{e size n:Nat} {v:Value} {xs:List Value},W.ownsRow (w.heap.size+2) e size v n xs->((W.setCell ⟨w.heap.size+1,0,none⟩ vm).setCell ⟨w.heap.size+1,1,none⟩ vk).ownsRow (w.heap.size+2) e size v n xs:=λhr=>R9 hr λg' hg'=>hF g' (by have:=(q9 hr hg').2.1;omega);refine⟨?_,(hF _ (by omega)).trans h.bN,?_,kp h.row,⟨cs,kp h1,h2⟩,kp h.rl⟩
 ·have b1:=h.be;exact⟨b1.os,b1.tape,b1.output,by simp[World.setCell];exact b1.size,λi hi=>(hF i (by omega)).trans (b1.block i hi)⟩
 ·have:=(h.bO.setS (j:=0) vm).setS (j:=1) vk;simpa using this
theorem Ds2.setL{w W:World}{vd vl vI vm vk u:Value}{F:List Int}{gs:List Dv}{ms:List Lk}{k j:Nat}{c:Array Value}(h:Ds2 w vd vl vI F vm vk gs ms W)(hb:Bk W k c 96)(hne:vk.ownBlock≠some k)(hk:w.heap.size+2<=k):Ds2 w vd vl vI F vm vk gs ms (W.setCell ⟨k,j,none⟩ u):=by
 have hF:∀i,i≠k->(W.setCell ⟨k,j,none⟩ u).heap[i]?=W.heap[i]?:=λi hi=>Below.heap_setCell W ⟨k,j,none⟩ u i hi;obtain⟨cs,h1,h2⟩:=h.rd;have far:∀{e size n:Nat} {v:Value} {xs:List Value},W.ownsRow (w.heap.size+2) e size v n xs->e≠96->(W.setCell ⟨k,j,none⟩ u).ownsRow (w.heap.size+2) e size v n xs:=λhr he=>R9 hr λg' hg'=>hF g' λe2=>by
  obtain⟨_,_,cur,hc⟩:=q9 hr hg';have hb':W.heap[k]?=_:=hb;rw[e2,hb']at hc;cases hc;exact he rfl
 refine⟨r9 h.be (by omega),(hF _ (by omega)).trans h.bN,(hF _ (by omega)).trans h.bO,far h.row (by decide),⟨cs,far h1 (by decide),h2⟩,R9 h.rl λg' hg'=>hF g' λe2=>hne (by rw[hg',e2])⟩
section
variable {P:Program}{md:Region.Mode}{ops:Array Oper}{Q:Exit->Act->World->Prop}{S:World->Prop}{oi oj:Oper}{fuel:Nat}{listed:Array Bool}{a:Act}{w:World}
theorem rd2(i j:Nat)(h:∀K':Act->World->Prop,Shut (∀a w,S w->(S w->wpAnyH P md ops Q S fuel (listed.setIfInBounds i true) a w)->K' a w)->if Region.wanted oi (yielded ops a.tmps)=true then Oper.wp P oi a w K' Q else K' (a.put oi.dst undef) w)(h':∀K':Act->World->Prop,Shut (∀a w,S w->(S w->wpAnyH P md ops Q S fuel (listed.setIfInBounds j true) a w)->K' a w)->if Region.wanted oj (yielded ops a.tmps)=true then Oper.wp P oj a w K' Q else K' (a.put oj.dst undef) w)(hi:ops[i]?=some oi:=by exact rfl)(hj:ops[j]?=some oj:=by exact rfl)(hr:Region.ready md ops listed=[i,j]:=by kernel_rfl):wpAnyH P md ops Q S (fuel+1) listed a w:=wpAnyH_ready hr (by simp) (AllReadyH.cons hi h (AllReadyH.cons hj h' AllReadyH.nil))
end
theorem vg(A B:Option Addr)(cap d8:Nat)(ds:List Dv)(ls:List Lk)(s:Nat)(w:World)(hz:Hid (netV ds ls=0))(hs:s<ds.length)(hD:Hid (Devs w.heap.size w (.slice A ds.length cap) ds))(hL:Hid (Links w.heap.size w (.slice B ls.length d8) ls)) :
  Calls prog 25 #[.agg #[.slice A ds.length cap,.slice B ls.length d8],.int .i64 (s:Int)] w (fW w ds ls (wholeF ds ls (s:Int))):=by
 have h10:ds.length<=10:=(l7 hz.out).1;have V0:Ds1 w (.slice A ds.length cap) (.slice B ls.length d8) (.slice (some ⟨w.heap.size+1+1,0,none⟩) 1 1) [(s:Int)] (((w.alloc (.cells #[.slice A ds.length cap,.slice B ls.length d8] 25)).alloc (.cells #[nilS,nilS] 25)).alloc (.cells #[.int .i64 (s:Int)] 3)):=by
  refine⟨Below.alloc' (Below.alloc' (Below.alloc' (Below.refl _ _) _) _) _,((i7 _ _ _).alloc _).alloc _,(E0 _ _ _ _ (by simp)).alloc _,?_⟩;have:=mH (B:=w.heap.size+2) ((w.alloc (.cells #[.slice A ds.length cap,.slice B ls.length d8] 25)).alloc (.cells #[nilS,nilS] 25)) (.int .i64 (s:Int)) 3 (by simp);simpa[p8]using this
 obtain⟨V,hV⟩:∃V:Value->List Int->World->Prop,V=Ds1 w (.slice A ds.length cap) (.slice B ls.length d8):=⟨_,rfl⟩;rw[<- hV]at V0;have VN:Hid (∀{v:Value} {f:List Int} {W:World},V v f W->w.heap.size+1<W.heap.size/\W.cell? ⟨w.heap.size,0,none⟩=some (.slice A ds.length cap)/\W.cell? ⟨w.heap.size,1,none⟩=some (.slice B ls.length d8)):=λ{v f W} h=>by
  rw[hV]at h;exact⟨h.bO.lt,h.bN.at 0,h.bN.at 1⟩
 have VB:Hid (∀{v:Value} {f:List Int} {W W':World},V v f W->Below W.heap.size W W'->V v f W'):=λ{v f W W'} h hb=>by rw[hV]at h ⊢;exact h.below hb
 have VC:Hid (∀{g c:Nat} {f:List Int} {W:World} (x:Int),V (.slice (some ⟨g,0,none⟩) f.length c) f W->Calls prog 63 #[.slice (some ⟨g,0,none⟩) f.length c,.int .i64 x] W λe w'=>e=.returned (.bool (decide (x∈f)))/\w'=W):=λ{g c f W} x h=>by
  rw[hV]at h;have:=dG _ _ _ f x _ W (dk h.row);rw[jH]at this;exact this
 have VA:Hid (∀{v:Value} {f:List Int} {W:World} (x:Int),V v f W->f.length<=100->∃g cq W1,(Builtin.append_ #[50,50] 50 #[v,.slice (some ⟨W.heap.size,0,none⟩) 1 1]).run prog (W.alloc (.cells #[.int .i64 x] 3))=.ok (.slice (some ⟨g,0,none⟩) (f++[x]).length cq) W1/\V (.slice (some ⟨g,0,none⟩) (f++[x]).length cq) (f++[x]) W1/\∀k c t,Bk W k c t->t≠3->Bk W1 k c t):=λ{v f W} x h hn=>by
  rw[hV]at h ⊢;exact h.app x hn
 have VS:Hid (∀{g c:Nat} {f:List Int} {W:World},V (.slice (some ⟨g,0,none⟩) f.length c) f W->f.length≠0->f.length<=c/\c<=2 ^ 63-1/\g<W.heap.size/\∀j x,f[j]?=some x->W.cell? ⟨g,j,none⟩=some (.int .i64 x)):=λ{g c f W} h hn=>by
  rw[hV]at h;obtain⟨g',c',h1,_,hg,h2,h3,_,h4⟩:=U7 h.row hn;cases h1;exact⟨h2,h3,hg,λj x hj=>h4 j _ (dj hj)⟩
 have LK:Hid (∀{v:Value} {f:List Int} {W:World} {k:Nat},k<ls.length->V v f W->∃(b o:Nat) (l:Lk),B=some ⟨b,o,none⟩/\ls[k]?=some l/\W.cell? ⟨b,o+k*4,none⟩=some (.int .i64 l.a)/\W.cell? ⟨b,o+k*4+1,none⟩=some (.int .i64 l.p)/\W.cell? ⟨b,o+k*4+2,none⟩=some (.int .i64 l.b)/\W.cell? ⟨b,o+k*4+3,none⟩=some (.int .i64 l.q)):=λ{v f W k} hk h=>by
  rw[hV]at h;have hl:ls[k]?=some ls[k]:=List.getElem?_eq_getElem hk;obtain⟨b,o,e,_,c0,c1,c2,c3⟩:=(hL.out.below h.be).at hl;exact⟨b,o,ls[k],e,hl,c0,c1,c2,c3⟩
 have OK:Hid (∀{f:List Int} {d:Int} {k:Nat},FOk ds f->FOk ds (o6 ls d k f)):=λ{f d k} h=>(fw hz.out k).ok h;have PR:Hid (∀{f:List Int} {d:Int} {k:Nat},∃r,o6 ls d k f=f++r):=λ{f d k}=>(fw (ds:=ds) hz.out k).pre;obtain⟨_,hlcap,hlm⟩:ls.length=ls.length/\ls.length<=d8/\d8<=maxLen:=by
  obtain⟨A',c',e,_,h1,h2,_⟩:=id hL.out;cases e;exact⟨rfl,h1,h2⟩
 unfold maxLen at hlm;have hok0:Hid (FOk ds [(s:Int)]):=FOk.one hs;have NW:Hid ((H8 ls 10 0 [(s:Int)]).mergeSort (λx y=>decide (x<=y))=wholeF ds ls (s:Int)):=ti hz.out hs;obtain⟨X,hX⟩:∃X:Value->List Int->Value->Value->List Dv->List Lk->World->Prop,X=λv F vm vk gs ms W=>Ds2 w (.slice A ds.length cap) (.slice B ls.length d8) v F vm vk gs ms W:=⟨_,rfl⟩;have H15:Hid (ls.length<=15):=(l7 hz.out).2.1;have FO:Hid (FOk ds (wholeF ds ls (s:Int))):=FOk.whole hz.out hs;have FSo:Hid ((wholeF ds ls (s:Int)).Pairwise (· <= ·)):=dS _;have XN:Hid (∀{v:Value} {F:List Int} {vm vk:Value} {gs:List Dv} {ms:List Lk} {W:World},X v F vm vk gs ms W->w.heap.size+1<W.heap.size/\W.cell? ⟨w.heap.size,0,none⟩=some (.slice A ds.length cap)/\W.cell? ⟨w.heap.size,1,none⟩=some (.slice B ls.length d8)/\W.cell? ⟨w.heap.size+1,0,none⟩=some vm/\W.cell? ⟨w.heap.size+1,1,none⟩=some vk):=λ{v F vm vk gs ms W} h=>by
  rw[hX]at h;exact⟨h.bO.lt,h.bN.at 0,h.bN.at 1,h.bO.at 0,h.bO.at 1⟩
 have XI:Hid (∀{g c:Nat} {F:List Int} {vm vk:Value} {gs:List Dv} {ms:List Lk} {W:World},X (.slice (some ⟨g,0,none⟩) F.length c) F vm vk gs ms W->F.length≠0->F.length<=c/\c<=2 ^ 63-1/\g<W.heap.size/\∀j x,F[j]?=some x->W.cell? ⟨g,j,none⟩=some (.int .i64 x)):=λ{g c F vm vk gs ms W} h hn=>by
  rw[hX]at h;obtain⟨g',c',h1,_,hg,h2,h3,_,h4⟩:=U7 h.row hn;cases h1;exact⟨h2,h3,hg,λj x hj=>h4 j _ (dj hj)⟩
 have XL:Hid (∀{v:Value} {F:List Int} {vm vk:Value} {gs:List Dv} {ms:List Lk} {W:World} (o:Obj),X v F vm vk gs ms W->X v F vm vk gs ms (W.alloc o)):=λ{v F vm vk gs ms W} o h=>by rw[hX]at h ⊢;exact h.below (Below.alloc' (Below.refl _ _) _)
 have XW:Hid (∀{v:Value} {F:List Int} {vm vk:Value} {gs:List Dv} {ms:List Lk} {W:World},X v F vm vk gs ms W->X v F vm vk gs ms W.drew):=λ{v F vm vk gs ms W} h=>by rw[hX]at h ⊢;exact h.below (Below.refl _ _).drew
 have XD:Hid (∀{v:Value} {F:List Int} {vm vk:Value} {gs:List Dv} {ms:List Lk} {W:World},X v F vm vk gs ms W->∀{j:Nat} {d:Dv},ds[j]?=some d->∃(b0 o0:Nat) (vb vr vt:Value),A=some ⟨b0,o0,none⟩/\b0<W.heap.size/\Hid (IsDv w.heap.size w [.string d.name,.int .i64 d.kind,.int .i64 d.addr,.int .u8 (d.pool:Int),vb,vr,vt] d)/\W.cell? ⟨b0,o0+j*7,none⟩=some (.string d.name)/\W.cell? ⟨b0,o0+j*7+1,none⟩=some (.int .i64 d.kind)/\W.cell? ⟨b0,o0+j*7+2,none⟩=some (.int .i64 d.addr)/\W.cell? ⟨b0,o0+j*7+3,none⟩=some (.int .u8 (d.pool:Int))/\W.cell? ⟨b0,o0+j*7+4,none⟩=some vb/\W.cell? ⟨b0,o0+j*7+5,none⟩=some vr/\W.cell? ⟨b0,o0+j*7+6,none⟩=some vt):=λ{v F vm vk gs ms W} h {j d} hj=>by
  rw[hX]at h;obtain⟨b,o,vb,vr,vt,e,hb,s1,s2,s3,c0,c1,c2,c3,c4,c5,c6⟩:=hD.out.at hj;have C:∀{o:Nat} {u:Value},w.cell? ⟨b,o,none⟩=some u->W.cell? ⟨b,o,none⟩=some u:=λ{o u} hc=>(h.be.cell (p:=⟨b,o,none⟩) hb).trans hc;exact⟨b,o,vb,vr,vt,e,Nat.lt_of_lt_of_le hb h.be.size,⟨vb,vr,vt,rfl,s1,s2,s3⟩,C c0,C c1,C c2,C c3,C c4,C c5,C c6⟩
 have XA:Hid (∀{v:Value} {F:List Int} {vm vk:Value} {gs:List Dv} {ms:List Lk} {W:World},X v F vm vk gs ms W->∀{d:Dv} {vb vr vt:Value},IsDv w.heap.size w [.string d.name,.int .i64 d.kind,.int .i64 d.addr,.int .u8 (d.pool:Int),vb,vr,vt] d->gs.length<=5000->∃g cq W1,(Builtin.append_ #[22,22] 22 #[vm,.slice (some ⟨W.heap.size,0,none⟩) 1 1]).run prog (W.alloc (.cells #[.string d.name,.int .i64 d.kind,.int .i64 d.addr,.int .u8 (d.pool:Int),vb,vr,vt] 56))=.ok (.slice (some ⟨g,0,none⟩) (gs.length+1) cq) W1/\X v F (.slice (some ⟨g,0,none⟩) (gs.length+1) cq) vk (gs++[d]) ms (W1.setCell ⟨w.heap.size+1,0,none⟩ (.slice (some ⟨g,0,none⟩) (gs.length+1) cq))/\W1.cell? ⟨w.heap.size+1,0,none⟩=some vm/\W1.frozen? ⟨w.heap.size+1,0,none⟩=false/\w.heap.size+1<W1.heap.size):=λ{v F vm vk gs ms W} h {d vb vr vt} hd hn=>by
  rw[hX]at h ⊢;exact h.appD hd hn
 have XS:Hid (∀{v:Value} {F:List Int} {vm vk:Value} {gs:List Dv} {ms:List Lk} {W:World},X v F vm vk gs ms W->∃A1 c1,vm=.slice A1 gs.length c1):=λ{v F vm vk gs ms W} h=>by
  rw[hX]at h;obtain⟨cs,h1,_⟩:=h.rd;exact ew h1
 have CLO:Hid (∀l∈ls,l.a∈wholeF ds ls (s:Int)->l.b∈wholeF ds ls (s:Int)):=vf hz.out hs;have XB:Hid (∀{v:Value} {F:List Int} {vm vk:Value} {gs:List Dv} {ms:List Lk} {W W':World},X v F vm vk gs ms W->Below W.heap.size W W'->X v F vm vk gs ms W'):=λ{v F vm vk gs ms W W'} h hb=>by rw[hX]at h ⊢;exact h.below hb
 have XC:Hid (∀{g c:Nat} {F:List Int} {vm vk:Value} {gs:List Dv} {ms:List Lk} {W:World} (x:Int),X (.slice (some ⟨g,0,none⟩) F.length c) F vm vk gs ms W->Calls prog 63 #[.slice (some ⟨g,0,none⟩) F.length c,.int .i64 x] W λe w'=>e=.returned (.bool (decide (x∈F)))/\w'=W):=λ{g c F vm vk gs ms W} x h=>by
  rw[hX]at h;have:=dG _ _ _ F x _ W (dk h.row);rw[jH]at this;exact this
 have XX:Hid (∀{g c:Nat} {F:List Int} {vm vk:Value} {gs:List Dv} {ms:List Lk} {W:World} (x:Int),x∈F->F.Pairwise (· <= ·)->F.Nodup->X (.slice (some ⟨g,0,none⟩) F.length c) F vm vk gs ms W->Calls prog 26 #[.slice (some ⟨g,0,none⟩) F.length c,.int .i64 x] W λe w'=>e=.returned (.int .i64 ((F.countP (·<x):Nat):Int))/\w'=W):=λ{g c F vm vk gs ms W} x hm hr hn h=>by
  rw[hX]at h;exact(kE _ _ _ F x _ W (dk h.row)).mono λe w' ⟨j,e1,hj,e2⟩=>⟨by rw[e1,hG hj.out hm hr hn],e2⟩
 have XQ:Hid (∀{v:Value} {F:List Int} {vm vk:Value} {gs:List Dv} {ms:List Lk} {W:World},X v F vm vk gs ms W->∀{k:Nat},k<ls.length->∃(b o:Nat) (l:Lk),B=some ⟨b,o,none⟩/\Hid (ls[k]?=some l)/\W.cell? ⟨b,o+k*4,none⟩=some (.int .i64 l.a)/\W.cell? ⟨b,o+k*4+1,none⟩=some (.int .i64 l.p)/\W.cell? ⟨b,o+k*4+2,none⟩=some (.int .i64 l.b)/\W.cell? ⟨b,o+k*4+3,none⟩=some (.int .i64 l.q)):=λ{v F vm vk gs ms W} h {k} hk=>by
  rw[hX]at h;have hl:ls[k]?=some ls[k]:=List.getElem?_eq_getElem hk;obtain⟨b,o,e,_,c0,c1,c2,c3⟩:=(hL.out.below h.be).at hl;exact⟨b,o,ls[k],e,hl,c0,c1,c2,c3⟩
 have XK:Hid (∀{v:Value} {F:List Int} {vm vk:Value} {gs:List Dv} {ms:List Lk} {W:World},X v F vm vk gs ms W->∀(l:Lk),ms.length<=5000->∃g cq W1,(Builtin.append_ #[23,23] 23 #[vk,.slice (some ⟨W.heap.size,0,none⟩) 1 1]).run prog (W.alloc (.cells #[.int .i64 l.a,.int .i64 l.p,.int .i64 l.b,.int .i64 l.q] 96))=.ok (.slice (some ⟨g,0,none⟩) (ms.length+1) cq) W1/\X v F vm (.slice (some ⟨g,0,none⟩) (ms.length+1) cq) gs (ms++[l]) (W1.setCell ⟨w.heap.size+1,1,none⟩ (.slice (some ⟨g,0,none⟩) (ms.length+1) cq))/\W1.cell? ⟨w.heap.size+1,1,none⟩=some vk/\W1.frozen? ⟨w.heap.size+1,1,none⟩=false/\w.heap.size+1<W1.heap.size):=λ{v F vm vk gs ms W} h l hn=>by
  rw[hX]at h ⊢;exact h.appL l hn
 have XS2:Hid (∀{v:Value} {F:List Int} {vm vk:Value} {gs:List Dv} {ms:List Lk} {W:World},X v F vm vk gs ms W->(∃A1 c1,vm=.slice A1 gs.length c1)/\(∃A2 c2,vk=.slice A2 ms.length c2)/\W.frozen? ⟨w.heap.size+1,0,none⟩=false/\W.frozen? ⟨w.heap.size+1,1,none⟩=false):=λ{v F vm vk gs ms W} h=>by
  rw[hX]at h;obtain⟨cs,h1,_⟩:=h.rd;exact⟨ew h1,ew h.rl,h.bO.fz 0,h.bO.fz 1⟩
 have XE:Hid (∀{g c:Nat} {A1 A2:Option Addr} {c1 c2:Nat} {W:World},X (.slice (some ⟨g,0,none⟩) (wholeF ds ls (s:Int)).length c) (wholeF ds ls (s:Int)) (.slice A1 (e8 ds (wholeF ds ls (s:Int))).length c1) (.slice A2 (e9 ls (wholeF ds ls (s:Int))).length c2) (e8 ds (wholeF ds ls (s:Int))) (e9 ls (wholeF ds ls (s:Int))) W->Hid (fW w ds ls (wholeF ds ls (s:Int)) (.returned (.tuple #[.agg #[.slice A1 (e8 ds (wholeF ds ls (s:Int))).length c1,.slice A2 (e9 ls (wholeF ds ls (s:Int))).length c2],.slice (some ⟨g,0,none⟩) (wholeF ds ls (s:Int)).length c])) ((W.setCell ⟨w.heap.size+1,0,none⟩ (.slice A1 (e8 ds (wholeF ds ls (s:Int))).length c1)).setCell ⟨w.heap.size+1,1,none⟩ (.slice A2 (e9 ls (wholeF ds ls (s:Int))).length c2)))):=λ{g c A1 A2 c1 c2 W} h=>by
  rw[hX]at h;have h':=h.same;exact⟨A1,A2,c1,c2,g,c,rfl,h'.be,h'.devs,h'.links,dk h'.row⟩
 have XM:Hid (∀{g c lbk:Nat} {la lp lb lq na nb:Int} {F:List Int} {vm vk:Value} {gs:List Dv} {ms:List Lk} {W:World},X (.slice (some ⟨g,0,none⟩) F.length c) F vm vk gs ms W->Bk W lbk #[.int .i64 la,.int .i64 lp,.int .i64 lb,.int .i64 lq] 96->vk.ownBlock≠some lbk->w.heap.size+2<=lbk->X (.slice (some ⟨g,0,none⟩) F.length c) F vm vk gs ms ((W.setCell ⟨lbk,0,none⟩ (.int .i64 na)).setCell ⟨lbk,2,none⟩ (.int .i64 nb))/\Bk ((W.setCell ⟨lbk,0,none⟩ (.int .i64 na)).setCell ⟨lbk,2,none⟩ (.int .i64 nb)) lbk #[.int .i64 na,.int .i64 lp,.int .i64 nb,.int .i64 lq] 96):=λ{g c lbk la lp lb lq na nb F vm vk gs ms W} h hb hne hk=>by
  rw[hX]at h ⊢;have b1:=hb.setS (j:=0) (.int .i64 na);have b2:=b1.setS (j:=2) (.int .i64 nb);exact⟨(h.setL hb hne hk).setL b1 hne hk,by simpa using b2⟩
 have XO:Hid (∀{v:Value} {F:List Int} {vm vk:Value} {gs:List Dv} {ms:List Lk} {W:World},X v F vm vk gs ms W->vk.ownBlock≠some W.heap.size/\w.heap.size+2<=W.heap.size):=λ{v F vm vk gs ms W} h=>by
  rw[hX]at h;exact⟨λe=>by have:=(q9 h.rl e).1;omega,h.size⟩
 have SR:Hid (∀{g c:Nat} {f:List Int} {W:World},V (.slice (some ⟨g,0,none⟩) f.length c) f W->f.length<1000->Calls prog 64 #[.slice (some ⟨g,0,none⟩) f.length c] W λe w'=>e=.returned (.tuple #[])/\X (.slice (some ⟨g,0,none⟩) (f.mergeSort λx y=>decide (x<=y)).length c) (f.mergeSort λx y=>decide (x<=y)) nilS nilS [] [] w'):=λ{g c f W} h hl=>by
  rw[hV]at h;rw[hX];refine(mL h.row hl).mono λe w' ⟨h1,h2,h3⟩=>⟨h1,Ds2.start ⟨?_,?_,?_,?_⟩⟩
  ·exact h.be.trans (h3.mono (by omega))
  ·exact(h3.block _ (by omega)).trans h.bN
  ·exact(h3.block _ (by omega)).trans h.bO
  ·rw[List.length_mergeSort];exact h2
 clear hV hD hL hz;go_enter func25,ntmps25;go_wp2_with fail;go_loopw[6,7] (λs6 s7 wr=>∃(i g c:Nat) (f:List Int),s6=.slice (some ⟨g,0,none⟩) f.length c/\s7=.int .i64 (i:Int)/\i<=f.length/\f.length≠0/\Hid (FOk ds f)/\V s6 f wr/\Hid (H8 ls (10-i) i f=H8 ls 10 0 [(s:Int)])) (λ_ s7 _=>11-(intOf s7).toNat)
 case atStart=>exact⟨0,_,_,[(s:Int)],rfl,rfl,by simp,by simp,hok0,by simpa using V0,rfl⟩
 case round =>
  clear V0 hok0;obtain⟨i,g,c,f,rfl,rfl,hi,hf0,hok,V1,hno⟩:=hrel;have hfl:=hok.out.len;obtain⟨n1,n2,n3⟩:=VN.out V1;obtain⟨q1,q2,q3,q4⟩:=VS.out V1 hf0;by_cases hlt:i<f.length
  ·obtain⟨d,hd⟩:∃d,f[i]?=some d:=⟨_,List.getElem?_eq_getElem hlt⟩;have hK:Hid (H8 ls (10-i) i f=H8 ls (10-(i+1)) (i+1) (o6 ls d ls.length f)):=by
    rw[show 10-i=(10-(i+1))+1 by omega];show _=_;rw[qp hd]
   have HD:Hid (f[i]?=some d):=hd;have i1:(0:Int)<=(i:Int):=by omega
   have i2:(i:Int)<(f.length:Int):=by omega
   clear q4 hd;go_wp2_with fail;go_loopw[6,8] (λs6 s8 wr=>∃(k g c:Nat) (q:List Int),s6=.slice (some ⟨g,0,none⟩) q.length c/\s8=.int .i64 (k:Int)/\k<=ls.length/\V s6 q wr/\Hid (q=o6 ls d k f)) (λ_ s8 _=>ls.length-(intOf s8).toNat)
   case atStart=>exact⟨0,_,_,f,rfl,rfl,by omega,V1,rfl⟩
   case round =>
    clear V1 n1 n2 n3 q1 q2 q3;obtain⟨k,g2,c2,q,rfl,rfl,hk,V2,hq⟩:=hrel;have hqk:Hid (FOk ds q):=by
     show FOk ds q;rw[hq.out];exact OK.out hok.out
    have hq10:q.length<=10:=by
     have:=hqk.out.len;omega
    obtain⟨m1,m2,m3⟩:=VN.out V2;by_cases hkl:k<ls.length
    ·obtain⟨b,o,l,rfl,hl,e0,e1,e2,e3⟩:=LK.out hkl V2;have k1:(0:Int)<=(k:Int):=by omega
     have k2:(k:Int)<(ls.length:Int):=by omega
     have hl:=Hid.of hl;obtain⟨la,lp,lb,lq⟩:=l;dsimp only at e0 e1 e2 e3;have NL:Hid (o6 ls d (k+1) f=aZ d ⟨la,lp,lb,lq⟩ q):=by
      show(match ls[k]? with|none=>_|some l=>_)=_;rw[hl.out,<- hq.out]
     have QI:Hid (q[i]?=some d):=by
      obtain⟨r,e⟩:=PR.out (f:=f) (d:=d) (k:=k);show _=_;rw[hq.out,e,List.getElem?_append_left (List.getElem?_eq_some_iff.1 HD.out).1];exact HD.out
     have QA:Hid (∀{q:List Int} {x y:Int},q[i]?=some x->(q++[y])[i]?=some x):=λ{q x y} h=>by
      rw[List.getElem?_append_left (List.getElem?_eq_some_iff.1 h).1];exact h
     obtain⟨K,hKd⟩:∃K:Value->List Int->World->Prop,K=λv q W=>V v q W/\Bk W wr.heap.size #[.int .i64 la,.int .i64 lp,.int .i64 lb,.int .i64 lq] 96:=⟨_,rfl⟩;have K2:K (.slice (some ⟨g2,0,none⟩) q.length c2) q (wr.alloc (.cells #[.int .i64 la,.int .i64 lp,.int .i64 lb,.int .i64 lq] 96)):=by
      rw[hKd];exact⟨VB.out V2 (Below.alN (Below.refl _ _) _),i7 _ _ _⟩
     have KC:Hid (∀{g c:Nat} {q:List Int} {W:World} {d:Int},q[i]?=some d->K (.slice (some ⟨g,0,none⟩) q.length c) q W->W.cell? ⟨g,i,none⟩=some (.int .i64 d)/\W.cell? ⟨wr.heap.size,0,none⟩=some (.int .i64 la)/\W.cell? ⟨wr.heap.size,2,none⟩=some (.int .i64 lb)/\((i:Int)<(q.length:Int)/\wr.heap.size<W.heap.size/\w.heap.size+1<W.heap.size)):=λ{g c q W d} hq h=>by
      rw[hKd]at h;have hlt:=(List.getElem?_eq_some_iff.1 hq).1;obtain⟨_,_,_,r4⟩:=VS.out h.1 (by omega);exact⟨r4 i d hq,h.2.at 0,h.2.at 2,by omega,h.2.lt,(VN.out h.1).1⟩
     have HC:Hid (∀{g c:Nat} {q:List Int} {W:World} {d:Int},q[i]?=some d->K (.slice (some ⟨g,0,none⟩) q.length c) q W->W.cell? ⟨g,i,none⟩=some (.int .i64 d)/\W.cell? ⟨wr.heap.size,0,none⟩=some (.int .i64 la)/\W.cell? ⟨wr.heap.size,2,none⟩=some (.int .i64 lb)):=λ{g c q W d} hq h=>by
      obtain⟨r1,r2,r3,_⟩:=KC.out hq h;exact⟨r1,r2,r3⟩
     have KD:Hid (∀{v:Value} {q:List Int} {W:World},K v q W->K v q W.drew):=λ{v q W} h=>by
      rw[hKd]at h ⊢;exact⟨VB.out h.1 (Below.refl _ _).drew,h.2.drew⟩
     have KV:Hid (∀{v:Value} {q:List Int} {W:World},K v q W->V v q W):=λ{v q W} h=>by
      rw[hKd]at h;exact h.1
     have KT:Hid (∀{g c:Nat} {q:List Int} {W:World} (x:Int),K (.slice (some ⟨g,0,none⟩) q.length c) q W->Calls prog 63 #[.slice (some ⟨g,0,none⟩) q.length c,.int .i64 x] W λe w'=>e=.returned (.bool (decide (x∈q)))/\K (.slice (some ⟨g,0,none⟩) q.length c) q w'):=λ{g c q W} x h=>by
      have h':=h;rw[hKd]at h';exact(VC.out x h'.1).mono λe w' ⟨e1,e2⟩=>⟨e1,by rw[e2];exact h⟩
     have KA:Hid (∀{v:Value} {q:List Int} {W:World} (x:Int),K v q W->q.length<=100->∃g cq W1 r,Hid (r=q++[x])/\Hid (r.length=q.length+1)/\(Builtin.append_ #[50,50] 50 #[v,.slice (some ⟨W.heap.size,0,none⟩) 1 1]).run prog (W.alloc (.cells #[.int .i64 x] 3))=.ok (.slice (some ⟨g,0,none⟩) r.length cq) W1/\K (.slice (some ⟨g,0,none⟩) r.length cq) r W1):=λ{v q W} x h hn=>by
      rw[hKd]at h ⊢;obtain⟨g,cq,W1,e1,e2,e3⟩:=VA.out x h.1 hn;refine⟨g,cq,W1,q++[x],rfl,?_,e1,e2,e3 _ _ _ h.2 (by decide)⟩;show _=_;simp
     clear LK hKd VN VB VC VA VS OK PR HD hl V2 hq hK hok hno hqk;go_wp2_with fail;by_cases t1:la=d
     ·subst t1;have KY1:=KD.out K2;obtain⟨z0,z1,z2,z3⟩:=KC.out QI.out KY1;by_cases m1:lb∈q
      ·have CT:Hid (∀{W:World},K (.slice (some ⟨g2,0,none⟩) q.length c2) q W->Calls prog 63 #[.slice (some ⟨g2,0,none⟩) q.length c2,.int .i64 lb] W λe w'=>e=.returned (.bool true)/\K (.slice (some ⟨g2,0,none⟩) q.length c2) q w'):=λ{W} h=>by
        have:=KT.out lb h;rw[decide_eq_true m1]at this;exact this
       go_wp2_with fail;go_region_held3 (λW=>W.cell? ⟨g2,i,none⟩=some (.int .i64 la)/\W.cell? ⟨wr.heap.size,0,none⟩=some (.int .i64 la)/\W.cell? ⟨wr.heap.size,2,none⟩=some (.int .i64 lb)) (exact HC.out QI.out ‹_›)
        ((first|(go_at_call 63;refine(CT.out ‹_›).mono ?_;rintro e w18⟨rfl,K18⟩)))
       clear CT z0 z1 z2 z3 KY1 K2;by_cases t2:lb=la
       ·subst t2;have KY2:=KD.out K18;obtain⟨z0,z1,z2,z3⟩:=KC.out QI.out KY2;by_cases m2:lb∈q
        ·have CT:Hid (∀{W:World},K (.slice (some ⟨g2,0,none⟩) q.length c2) q W->Calls prog 63 #[.slice (some ⟨g2,0,none⟩) q.length c2,.int .i64 lb] W λe w'=>e=.returned (.bool true)/\K (.slice (some ⟨g2,0,none⟩) q.length c2) q w'):=λ{W} h=>by
          have:=KT.out lb h;rw[decide_eq_true m2]at this;exact this
         go_wp2_with fail;go_region_held3 (λW=>W.cell? ⟨g2,i,none⟩=some (.int .i64 lb)/\W.cell? ⟨wr.heap.size,0,none⟩=some (.int .i64 lb)/\W.cell? ⟨wr.heap.size,2,none⟩=some (.int .i64 lb)) (exact HC.out QI.out ‹_›)
          ((first|(go_at_call 63;refine(CT.out ‹_›).mono ?_;rintro e w28⟨rfl,K28⟩)))
         clear CT z0 z1 z2 z3 KY2 K18;have HS:Hid (q=o6 ls lb (k+1) f):=by
          show _=_;rw[NL.out];rw[aH];dsimp only;rw[cI m1,cI m2]
         have VF:=KV.out K28;clear NL KC KD KA KV KT HC;go_wp2_with fail;go_roundw
         case rel=>exact⟨k+1,_,_,q,rfl,by go_num,by omega,VF,HS⟩
         case measure=>simp[intOf];omega
        ·have CT:Hid (∀{W:World},K (.slice (some ⟨g2,0,none⟩) q.length c2) q W->Calls prog 63 #[.slice (some ⟨g2,0,none⟩) q.length c2,.int .i64 lb] W λe w'=>e=.returned (.bool false)/\K (.slice (some ⟨g2,0,none⟩) q.length c2) q w'):=λ{W} h=>by
          have:=KT.out lb h;rw[decide_eq_false m2]at this;exact this
         go_wp2_with fail;go_region_held3 (λW=>W.cell? ⟨g2,i,none⟩=some (.int .i64 lb)/\W.cell? ⟨wr.heap.size,0,none⟩=some (.int .i64 lb)/\W.cell? ⟨wr.heap.size,2,none⟩=some (.int .i64 lb)) (exact HC.out QI.out ‹_›)
          ((first|(go_at_call 63;refine(CT.out ‹_›).mono ?_;rintro e w28⟨rfl,K28⟩)))
         clear CT z0 z1 z2 z3 KY2 K18;obtain⟨z0,z1,z2,z3⟩:=KC.out QI.out K28;obtain⟨g24,c24,W24,r2,EQ2,LQ2,hr2,K24⟩:=KA.out lb K28 (by omega);have QI2:Hid (r2[i]?=some lb):=by
          show _=_;rw[EQ2.out];exact QA.out QI.out
         clear K28;go_wp2_with (at_builtin;refine ah rfl _ _ 50 rfl rfl rfl hr2 ?_);clear hr2 z0 z1 z2 z3;have HS:Hid (r2=o6 ls lb (k+1) f):=by
          show _=_;rw[NL.out];rw[aH];dsimp only;rw[cI m1,cH m2,<- EQ2.out]
         have VF:=KV.out K24;clear NL KC KD KA KV KT HC;go_wp2_with fail;go_roundw
         case rel=>exact⟨k+1,_,_,r2,rfl,by go_num,by omega,VF,HS⟩
         case measure=>simp[intOf];omega
       ·have KY2:=KD.out K18;obtain⟨z0,z1,z2,z3⟩:=KC.out QI.out KY2;have td2:decide (lb=la)=false:=by simp[t2]
        have tb2:(lb == la)=false:=by simp[t2]
        clear K18;go_wp2_with fail;go_region;clear z0 z1 z2 z3 td2 tb2;have HS:Hid (q=o6 ls la (k+1) f):=by
         show _=_;rw[NL.out];rw[aH];dsimp only;rw[cI m1,cJ t2]
        have VF:=KV.out KY2;clear NL KC KD KA KV KT HC;go_wp2_with fail;go_roundw
        case rel=>exact⟨k+1,_,_,q,rfl,by go_num,by omega,VF,HS⟩
        case measure=>simp[intOf];omega
      ·have CT:Hid (∀{W:World},K (.slice (some ⟨g2,0,none⟩) q.length c2) q W->Calls prog 63 #[.slice (some ⟨g2,0,none⟩) q.length c2,.int .i64 lb] W λe w'=>e=.returned (.bool false)/\K (.slice (some ⟨g2,0,none⟩) q.length c2) q w'):=λ{W} h=>by
        have:=KT.out lb h;rw[decide_eq_false m1]at this;exact this
       go_wp2_with fail;go_region_held3 (λW=>W.cell? ⟨g2,i,none⟩=some (.int .i64 la)/\W.cell? ⟨wr.heap.size,0,none⟩=some (.int .i64 la)/\W.cell? ⟨wr.heap.size,2,none⟩=some (.int .i64 lb)) (exact HC.out QI.out ‹_›)
        ((first|(go_at_call 63;refine(CT.out ‹_›).mono ?_;rintro e w18⟨rfl,K18⟩)))
       clear CT z0 z1 z2 z3 KY1 K2;obtain⟨z0,z1,z2,z3⟩:=KC.out QI.out K18;obtain⟨g14,c14,W14,r1,EQ1,LQ1,hr1,K14⟩:=KA.out lb K18 (by omega);have QI1:Hid (r1[i]?=some la):=by
        show _=_;rw[EQ1.out];exact QA.out QI.out
       clear K18;go_wp2_with (at_builtin;refine ah rfl _ _ 50 rfl rfl rfl hr1 ?_);clear hr1 z0 z1 z2 z3;by_cases t2:lb=la
       ·subst t2;have KY2:=KD.out K14;obtain⟨z0,z1,z2,z3⟩:=KC.out QI1.out KY2;by_cases m2:lb∈r1
        ·have CT:Hid (∀{W:World},K (.slice (some ⟨g14,0,none⟩) r1.length c14) r1 W->Calls prog 63 #[.slice (some ⟨g14,0,none⟩) r1.length c14,.int .i64 lb] W λe w'=>e=.returned (.bool true)/\K (.slice (some ⟨g14,0,none⟩) r1.length c14) r1 w'):=λ{W} h=>by
          have:=KT.out lb h;rw[decide_eq_true m2]at this;exact this
         go_wp2_with fail;go_region_held3 (λW=>W.cell? ⟨g14,i,none⟩=some (.int .i64 lb)/\W.cell? ⟨wr.heap.size,0,none⟩=some (.int .i64 lb)/\W.cell? ⟨wr.heap.size,2,none⟩=some (.int .i64 lb)) (exact HC.out QI1.out ‹_›)
          ((first|(go_at_call 63;refine(CT.out ‹_›).mono ?_;rintro e w28⟨rfl,K28⟩)))
         clear CT z0 z1 z2 z3 KY2 K14;have HS:Hid (r1=o6 ls lb (k+1) f):=by
          show _=_;rw[NL.out];rw[aH];dsimp only;rw[cH m1,<- EQ1.out,cI m2]
         have VF:=KV.out K28;clear NL KC KD KA KV KT HC;go_wp2_with fail;go_roundw
         case rel=>exact⟨k+1,_,_,r1,rfl,by go_num,by omega,VF,HS⟩
         case measure=>simp[intOf];omega
        ·have CT:Hid (∀{W:World},K (.slice (some ⟨g14,0,none⟩) r1.length c14) r1 W->Calls prog 63 #[.slice (some ⟨g14,0,none⟩) r1.length c14,.int .i64 lb] W λe w'=>e=.returned (.bool false)/\K (.slice (some ⟨g14,0,none⟩) r1.length c14) r1 w'):=λ{W} h=>by
          have:=KT.out lb h;rw[decide_eq_false m2]at this;exact this
         go_wp2_with fail;go_region_held3 (λW=>W.cell? ⟨g14,i,none⟩=some (.int .i64 lb)/\W.cell? ⟨wr.heap.size,0,none⟩=some (.int .i64 lb)/\W.cell? ⟨wr.heap.size,2,none⟩=some (.int .i64 lb)) (exact HC.out QI1.out ‹_›)
          ((first|(go_at_call 63;refine(CT.out ‹_›).mono ?_;rintro e w28⟨rfl,K28⟩)))
         clear CT z0 z1 z2 z3 KY2 K14;obtain⟨z0,z1,z2,z3⟩:=KC.out QI1.out K28;obtain⟨g24,c24,W24,r2,EQ2,LQ2,hr2,K24⟩:=KA.out lb K28 (by have:=LQ1.out;omega);have QI2:Hid (r2[i]?=some lb):=by
          show _=_;rw[EQ2.out];exact QA.out QI1.out
         clear K28;go_wp2_with (at_builtin;refine ah rfl _ _ 50 rfl rfl rfl hr2 ?_);clear hr2 z0 z1 z2 z3;have HS:Hid (r2=o6 ls lb (k+1) f):=by
          show _=_;rw[NL.out];rw[aH];dsimp only;rw[cH m1,<- EQ1.out,cH m2,<- EQ2.out]
         have VF:=KV.out K24;clear NL KC KD KA KV KT HC;go_wp2_with fail;go_roundw
         case rel=>exact⟨k+1,_,_,r2,rfl,by go_num,by omega,VF,HS⟩
         case measure=>simp[intOf];omega
       ·have KY2:=KD.out K14;obtain⟨z0,z1,z2,z3⟩:=KC.out QI1.out KY2;have td2:decide (lb=la)=false:=by simp[t2]
        have tb2:(lb == la)=false:=by simp[t2]
        clear K14;go_wp2_with fail;go_region;clear z0 z1 z2 z3 td2 tb2;have HS:Hid (r1=o6 ls la (k+1) f):=by
         show _=_;rw[NL.out];rw[aH];dsimp only;rw[cH m1,<- EQ1.out,cJ t2]
        have VF:=KV.out KY2;clear NL KC KD KA KV KT HC;go_wp2_with fail;go_roundw
        case rel=>exact⟨k+1,_,_,r1,rfl,by go_num,by omega,VF,HS⟩
        case measure=>simp[intOf];omega
     ·have KY1:=KD.out K2;obtain⟨z0,z1,z2,z3⟩:=KC.out QI.out KY1;have td1:decide (la=d)=false:=by simp[t1]
      have tb1:(la == d)=false:=by simp[t1]
      clear K2;go_wp2_with fail;go_region;clear z0 z1 z2 z3 td1 tb1;by_cases t2:lb=d
      ·subst t2;have KY2:=KD.out KY1;obtain⟨z0,z1,z2,z3⟩:=KC.out QI.out KY2;by_cases m2:la∈q
       ·have CT:Hid (∀{W:World},K (.slice (some ⟨g2,0,none⟩) q.length c2) q W->Calls prog 63 #[.slice (some ⟨g2,0,none⟩) q.length c2,.int .i64 la] W λe w'=>e=.returned (.bool true)/\K (.slice (some ⟨g2,0,none⟩) q.length c2) q w'):=λ{W} h=>by
         have:=KT.out la h;rw[decide_eq_true m2]at this;exact this
        go_wp2_with fail;go_region_held3 (λW=>W.cell? ⟨g2,i,none⟩=some (.int .i64 lb)/\W.cell? ⟨wr.heap.size,0,none⟩=some (.int .i64 la)/\W.cell? ⟨wr.heap.size,2,none⟩=some (.int .i64 lb)) (exact HC.out QI.out ‹_›)
         ((first|(go_at_call 63;refine(CT.out ‹_›).mono ?_;rintro e w28⟨rfl,K28⟩)))
        clear CT z0 z1 z2 z3 KY2 KY1;have HS:Hid (q=o6 ls lb (k+1) f):=by
         show _=_;rw[NL.out];rw[aH];dsimp only;rw[cJ t1,cI m2]
        have VF:=KV.out K28;clear NL KC KD KA KV KT HC;go_wp2_with fail;go_roundw
        case rel=>exact⟨k+1,_,_,q,rfl,by go_num,by omega,VF,HS⟩
        case measure=>simp[intOf];omega
       ·have CT:Hid (∀{W:World},K (.slice (some ⟨g2,0,none⟩) q.length c2) q W->Calls prog 63 #[.slice (some ⟨g2,0,none⟩) q.length c2,.int .i64 la] W λe w'=>e=.returned (.bool false)/\K (.slice (some ⟨g2,0,none⟩) q.length c2) q w'):=λ{W} h=>by
         have:=KT.out la h;rw[decide_eq_false m2]at this;exact this
        go_wp2_with fail;go_region_held3 (λW=>W.cell? ⟨g2,i,none⟩=some (.int .i64 lb)/\W.cell? ⟨wr.heap.size,0,none⟩=some (.int .i64 la)/\W.cell? ⟨wr.heap.size,2,none⟩=some (.int .i64 lb)) (exact HC.out QI.out ‹_›)
         ((first|(go_at_call 63;refine(CT.out ‹_›).mono ?_;rintro e w28⟨rfl,K28⟩)))
        clear CT z0 z1 z2 z3 KY2 KY1;obtain⟨z0,z1,z2,z3⟩:=KC.out QI.out K28;obtain⟨g24,c24,W24,r2,EQ2,LQ2,hr2,K24⟩:=KA.out la K28 (by omega);have QI2:Hid (r2[i]?=some lb):=by
         show _=_;rw[EQ2.out];exact QA.out QI.out
        clear K28;go_wp2_with (at_builtin;refine ah rfl _ _ 50 rfl rfl rfl hr2 ?_);clear hr2 z0 z1 z2 z3;have HS:Hid (r2=o6 ls lb (k+1) f):=by
         show _=_;rw[NL.out];rw[aH];dsimp only;rw[cJ t1,cH m2,<- EQ2.out]
        have VF:=KV.out K24;clear NL KC KD KA KV KT HC;go_wp2_with fail;go_roundw
        case rel=>exact⟨k+1,_,_,r2,rfl,by go_num,by omega,VF,HS⟩
        case measure=>simp[intOf];omega
      ·have KY2:=KD.out KY1;obtain⟨z0,z1,z2,z3⟩:=KC.out QI.out KY2;have td2:decide (lb=d)=false:=by simp[t2]
       have tb2:(lb == d)=false:=by simp[t2]
       clear KY1;go_wp2_with fail;go_region;clear z0 z1 z2 z3 td2 tb2;have HS:Hid (q=o6 ls d (k+1) f):=by
        show _=_;rw[NL.out];rw[aH];dsimp only;rw[cJ t1,cJ t2]
       have VF:=KV.out KY2;clear NL KC KD KA KV KT HC;go_wp2_with fail;go_roundw
       case rel=>exact⟨k+1,_,_,q,rfl,by go_num,by omega,VF,HS⟩
       case measure=>simp[intOf];omega
    ·obtain rfl:k=ls.length:=by omega
     have hq2:Hid (i+1<=q.length):=by
      obtain⟨r,e⟩:=PR.out (f:=f) (d:=d) (k:=ls.length);show _<=_;rw[hq.out,e,List.length_append];omega
     have HN:Hid (H8 ls (10-(i+1)) (i+1) q=H8 ls 10 0 [(s:Int)]):=by
      show _=_;rw[hq.out,<- hK.out];exact hno.out
     clear LK VC VA VS OK PR HD hq hK hno VN VB;go_wp2_with fail;go_roundw
     case rel=>exact⟨i+1,g2,c2,q,rfl,by go_num,hq2.out,by have:=hq2.out;omega,hqk,V2,HN⟩
     case measure=>simp[intOf];omega
  ·obtain rfl:i=f.length:=by omega
   have HF:Hid (f=H8 ls 10 0 [(s:Int)]):=by
    show _=_;rw[<- hno.out,qo (Nat.le_refl _)]
   have HW:Hid (f.mergeSort (λx y=>decide (x<=y))=wholeF ds ls s):=by
    show _=_;rw[HF.out];exact NW.out
   have ST:=SR.out V1 (by omega);rw[HW.out]at ST;have hwl:Hid ((wholeF ds ls s).length=f.length):=by
    show _=_;rw[<- HW.out,List.length_mergeSort]
   rw[<- hwl.out]at ST;clear LK VC VA VS OK PR hno VN VB HF HW V1 hok q1 q2 q3 q4 n1 n2 n3 SR NW;have ST:Hid (Calls prog 64 _ _ _):=ST;rw[<- hwl.out];go_wp2_with fail;refine ST.out.mono ?_;rintro e w5⟨rfl,X5⟩;clear ST;obtain⟨F,hF⟩:∃F,F=wholeF ds ls (s:Int):=⟨_,rfl⟩;rw[<- hF]at X5 ⊢ FO FSo CLO XE;have h0:F.length≠0:=by rw[hF];exact gZ ds ls s
   have HFE:Hid (F=wholeF ds ls (s:Int)):=hF;have hF10:=FO.out.len;obtain⟨r1,r2,r3,_⟩:=XI.out X5 h0;clear hwl hF;go_wp2_with fail;go_loopw[10] (λs10 wr=>∃(i:Nat) (vm:Value),s10=.int .i64 (i:Int)/\i<=F.length/\X (.slice (some ⟨g,0,none⟩) F.length c) F vm nilS (e8 ds (F.take i)) [] wr) (λs10 _=>F.length-(intOf s10).toNat)
   case atStart=>exact⟨0,_,rfl,by omega,X5⟩
   case round =>
    clear X5 r3;obtain⟨i,vm,rfl,hi,X1⟩:=hrel;have hgl1:=lN FO.out i;rw[List.length_take,Nat.min_eq_left hi]at hgl1;obtain⟨n1,n2,n3,n4,n5⟩:=XN.out X1;obtain⟨_,_,g1,gc⟩:=XI.out X1 h0;by_cases hlt:i<F.length
    ·obtain⟨d,hd⟩:∃d,F[i]?=some d:=⟨_,List.getElem?_eq_getElem hlt⟩;have q5:=gc i d hd;obtain⟨d0,d1⟩:=FO.out.lt d (List.mem_of_getElem? hd);obtain⟨j,rfl⟩:∃j:Nat,d=(j:Int):=⟨d.toNat,by omega⟩;obtain⟨dv,hdv⟩:∃dv,ds[j]?=some dv:=⟨_,List.getElem?_eq_getElem (by omega)⟩;have hN:Hid (e8 ds (F.take (i+1))=e8 ds (F.take i)++[dv]):=by
      show _=_;rw[List.take_add_one,hd];exact lO _ (by simpa using hdv)
     obtain⟨b0,o0,vb,vr,vt,rfl,hb1,hID,c0,c1,c2,c3,c4,c5,c6⟩:=XD.out (XW.out X1) hdv;obtain⟨m1,m2,m3,m4,m5⟩:=XN.out (XW.out X1);obtain⟨k1,k2,k3,k4,k5⟩:=XN.out (XW.out (XL.out (.cells #[.string dv.name,.int .i64 dv.kind,.int .i64 dv.addr,.int .u8 (dv.pool:Int),vb,vr,vt] 56) X1));obtain⟨g4,c4',W4,hrun,X4,y1,y2,y3⟩:=XA.out (XW.out X1) hID.out (by omega);obtain⟨A1,e1,rfl⟩:=XS.out X1;have i1:(0:Int)<=(i:Int):=by omega
     have i2:(i:Int)<(F.length:Int):=by omega
     have j1:(0:Int)<=(j:Int):=by omega
     have j2:(j:Int)<(ds.length:Int):=by omega
     clear gc hd hdv d0 d1 hID XD XA XS XL XI X1 n3 n4 n5 hgl1;go_upto_region 17 with fail
     go_region_law (refine kA (by rfl) _ _ 22 (by rfl) _ _ _ W4 (by rfl) (by rfl) hrun ?_)
     all_goals
      go_wp2_with fail;go_roundw
      case rel=>exact⟨i+1,_,by go_num,by omega,by rw[hN.out];exact X4⟩
      case measure=>simp[intOf];omega
    ·obtain rfl:i=F.length:=by omega
     rw[List.take_length]at X1 hgl1;have h15:=H15.out;clear XI XA XD gc;go_wp2_with fail;go_loopw[11] (λs11 wr=>∃(k:Nat) (vk:Value),s11=.int .i64 (k:Int)/\k<=ls.length/\X (.slice (some ⟨g,0,none⟩) F.length c) F vm vk (e8 ds F) (e9 (ls.take k) F) wr) (λs11 _=>ls.length-(intOf s11).toNat)
     case atStart=>exact⟨0,_,rfl,by omega,X1⟩
     case round =>
      clear X1 n1 n2 n3 n4 n5;obtain⟨k,vk,rfl,hk,X2⟩:=hrel;obtain⟨n1,n2,n3,n4,n5⟩:=XN.out X2;by_cases hkl:k<ls.length
      rotate_left
      ·obtain rfl:k=ls.length:=by omega
       rw[List.take_length]at X2;obtain⟨⟨A1,c1,rfl⟩,⟨A2,c2,rfl⟩,f0,f1⟩:=XS2.out X2;have FF:=XE.out X2;obtain⟨_,_,_,v0,v1⟩:=XN.out X2;have Q0:((wr.setCell ⟨w.heap.size+1,0,none⟩ (.slice A1 (e8 ds F).length c1)).setCell ⟨w.heap.size+1,1,none⟩ (.slice A2 (e9 ls F).length c2)).cell? ⟨w.heap.size+1,0,none⟩=some (.slice A1 (e8 ds F).length c1):=(i9 (by simp)).trans (cj v0);have Q1:((wr.setCell ⟨w.heap.size+1,0,none⟩ (.slice A1 (e8 ds F).length c1)).setCell ⟨w.heap.size+1,1,none⟩ (.slice A2 (e9 ls F).length c2)).cell? ⟨w.heap.size+1,1,none⟩=some (.slice A2 (e9 ls F).length c2):=cj ((i9 (by simp)).trans v1);have Q0:=Hid.of Q0;have Q1:=Hid.of Q1;clear XB XC XX XQ XK XS2 XE XN XL XW CLO X2 XM XO hgl1 v0 v1;go_wp2_with fail;refine bodyPost_ret (v:=.tuple #[.agg #[.slice A1 (e8 ds F).length c1,.slice A2 (e9 ls F).length c2],.slice (some ⟨g,0,none⟩) F.length c]) (by simp[results,results25,go_sem,Q0.out,Q1.out]) rfl ?_;rw[<- HFE.out];exact FF.out
      obtain⟨b1,o1,l,rfl,hl,x0,x1,x2,x3⟩:=XQ.out X2 hkl;have hN:Hid (e9 (ls.take (k+1)) F=e9 (ls.take k) F++az F l):=by
       show _=_;rw[List.take_add_one,hl.out];simp[e9]
      have hcl:Hid (l.a∈F->l.b∈F):=λh=>CLO.out l (List.mem_of_getElem? hl.out) h;have hlf:Hid (az F l=if F.contains l.a then [⟨(F.countP (·<l.a):Nat),l.p,(F.countP (·<l.b):Nat),l.q⟩]else []):=rfl;obtain⟨la,lp,lb,lq⟩:=l;dsimp only at x0 x1 x2 x3 hcl hlf;have hml:(e9 (ls.take k) F).length<=15:=by
       have:=dT (f:=F) (ls.take k);rw[List.length_take]at this;omega
      have k1:(0:Int)<=(k:Int):=by omega
      have k2:(k:Int)<(ls.length:Int):=by omega
      obtain⟨o1',o2'⟩:=XO.out X2;obtain⟨K,hKd⟩:∃K:World->Prop,K=λW=>X (.slice (some ⟨g,0,none⟩) F.length c) F vm vk (e8 ds F) (e9 (ls.take k) F) W/\Bk W wr.heap.size #[.int .i64 la,.int .i64 lp,.int .i64 lb,.int .i64 lq] 96:=⟨_,rfl⟩;have K3:K (wr.alloc (.cells #[.int .i64 la,.int .i64 lp,.int .i64 lb,.int .i64 lq] 96)):=by
       rw[hKd];exact⟨XL.out _ X2,i7 _ _ _⟩
      have KCC:Hid (∀{W:World},K W->W.cell? ⟨wr.heap.size,0,none⟩=some (.int .i64 la)/\W.cell? ⟨wr.heap.size,2,none⟩=some (.int .i64 lb)/\W.frozen? ⟨wr.heap.size,0,none⟩=false/\W.frozen? ⟨wr.heap.size,2,none⟩=false):=λ{W} h=>by
       rw[hKd]at h;exact⟨h.2.at 0,h.2.at 2,h.2.fz 0,h.2.fz 2⟩
      have KD:Hid (∀{W:World},K W->K W.drew):=λ{W} h=>by
       rw[hKd]at h ⊢;exact⟨XW.out h.1,h.2.drew⟩
      have KX:Hid (∀{W:World},K W->X (.slice (some ⟨g,0,none⟩) F.length c) F vm vk (e8 ds F) (e9 (ls.take k) F) W/\wr.heap.size<W.heap.size):=λ{W} h=>by
       rw[hKd]at h;exact⟨h.1,h.2.lt⟩
      have KT:Hid (∀{W:World},K W->Calls prog 63 #[.slice (some ⟨g,0,none⟩) F.length c,.int .i64 la] W λe w'=>e=.returned (.bool (decide (la∈F)))/\K w'):=λ{W} h=>by
       have h':=h;rw[hKd]at h';exact(XC.out la h'.1).mono λe w' ⟨e1,e2⟩=>⟨e1,by rw[e2];exact h⟩
      by_cases hm:la∈F
      ·rw[decide_eq_true hm]at KT;obtain⟨na,hna⟩:∃na:Nat,na=F.countP (·<la):=⟨_,rfl⟩;obtain⟨nb,hnb⟩:∃nb:Nat,nb=F.countP (·<lb):=⟨_,rfl⟩;have KI:Hid (∀{W:World},K W->Calls prog 26 #[.slice (some ⟨g,0,none⟩) F.length c,.int .i64 la] W λe w'=>e=.returned (.int .i64 (na:Int))/\w'=W):=λ{W} h=>by
        have h':=h;rw[hKd]at h';rw[hna];exact XX.out la hm FSo.out FO.out.nd h'.1
       have KJ:Hid (∀{W:World},K W->Calls prog 26 #[.slice (some ⟨g,0,none⟩) F.length c,.int .i64 lb] W λe w'=>e=.returned (.int .i64 (nb:Int))/\w'=W):=λ{W} h=>by
        have h':=h;rw[hKd]at h';rw[hnb];exact XX.out lb (hcl.out hm) FSo.out FO.out.nd h'.1
       have KS:Hid (∀{W:World},K W->X (.slice (some ⟨g,0,none⟩) F.length c) F vm vk (e8 ds F) (e9 (ls.take k) F) ((W.setCell ⟨wr.heap.size,0,none⟩ (.int .i64 (na:Int))).setCell ⟨wr.heap.size,2,none⟩ (.int .i64 (nb:Int)))/\Bk ((W.setCell ⟨wr.heap.size,0,none⟩ (.int .i64 (na:Int))).setCell ⟨wr.heap.size,2,none⟩ (.int .i64 (nb:Int))) wr.heap.size #[.int .i64 (na:Int),.int .i64 lp,.int .i64 (nb:Int),.int .i64 lq] 96/\W.frozen? ⟨wr.heap.size,0,none⟩=false/\W.frozen? ⟨wr.heap.size,2,none⟩=false):=λ{W} h=>by
        rw[hKd]at h;obtain⟨p1,p2⟩:=XM.out (na:=(na:Int)) (nb:=(nb:Int)) h.1 h.2 o1' o2';exact⟨p1,p2,h.2.fz 0,h.2.fz 2⟩
       have hN2:Hid (e9 (ls.take (k+1)) F=e9 (ls.take k) F++[⟨(na:Int),lp,(nb:Int),lq⟩]):=by
        show _=_;rw[hN.out,hlf.out,if_pos (by simpa using hm),hna,hnb]
       clear hN hlf hna hnb hKd XC XX XQ XS2 XE XL XW CLO X2 XM XO XB hl hcl hgl1;go_wp2_with fail;refine(KT.out K3).mono ?_;rintro e w6⟨rfl,K6⟩;have K7:=KD.out K6;obtain⟨z0,z2,zf0,zf2⟩:=KCC.out K7;have zl:=(KX.out K7).2;have KI:=KI.out K7;have KJ:=KJ.out K7;obtain⟨p1,p2,-,-⟩:=KS.out K7;clear KT K3 KS KX KCC KD K6 K7;go_wp2_with fail;refine wp_region_held_drew (S:=(λ_=>True)) (by rfl) trivial (λhHeld=>?_);generalize w6.drew=w7 at *;refine tk 0 ?_;try simp only[ly]
       refine tk 1 ?_;try simp only[ly]
       refine tk 4 ?_;try simp only[ly]
       refine tk 5 ?_;try simp only[ly]
       refine rd2 2 6 (λK hK=>?_) (λK hK=>?_);all_goals
        go_simp;refine hK.out _ _ trivial (λhHeld=>?_);clear hK K;try simp only[ly]
       refine rd2 3 6 (λK hK=>?_) (λK hK=>?_)
       rotate_left 2
       refine rd 2 (λK hK=>?_);go_simp;refine hK.out _ _ trivial (λhHeld=>?_);clear hK K;try simp only[ly]
       rotate_left 1
       go_simp;with_reducible refine KI.mono ?_
       rintro e w8⟨rfl,hw⟩;dsimp only;rw[hw];clear hw;refine hK.out _ _ trivial (λhHeld=>?_);clear hK K;try simp only[ly]
       refine rd 6 (λK hK=>?_);go_simp;refine hK.out _ _ trivial (λhHeld=>?_);clear hK K;try simp only[ly]
       rotate_left 1
       go_simp;refine hK.out _ _ trivial (λhHeld=>?_);clear hK K;try simp only[ly]
       refine rd 3 (λK hK=>?_);go_simp;with_reducible refine KI.mono ?_
       rintro e w8⟨rfl,hw⟩;dsimp only;rw[hw];clear hw;refine hK.out _ _ trivial (λhHeld=>?_);clear hK K;try simp only[ly]
       rotate_left 1
       refine rd 3 (λK hK=>?_);go_simp;with_reducible refine KI.mono ?_
       rintro e w8⟨rfl,hw⟩;dsimp only;rw[hw];clear hw;refine hK.out _ _ trivial (λhHeld=>?_);clear hK K;try simp only[ly]
       rotate_left 1
       all_goals
        refine tk 8 ?_;try simp only[ly]
        refine rd 7 (λK hK=>?_);go_simp;with_reducible refine KJ.mono ?_
        rintro e w9⟨rfl,hw⟩;dsimp only;rw[hw];clear hw;refine hK.out _ _ trivial (λhHeld=>?_);clear hK K;try simp only[ly]
        refine rd 9 (λK hK=>?_);go_simp;refine hK.out _ _ trivial (λhHeld=>?_);clear hK K;try simp only[ly]
        refine tk 10 ?_;try simp only[ly]
        refine rd 11 (λK hK=>?_);go_simp;refine hK.out _ _ trivial (λhHeld=>?_);clear hK K;try simp only[ly]
        refine wpAnyH_done (by kernel_rfl) ?_ _;clear KI KJ z0 z2 zf0 zf2 zl;generalize (w7.setCell ⟨wr.heap.size,0,none⟩ (.int .i64 (na:Int))).setCell ⟨wr.heap.size,2,none⟩ (.int .i64 (nb:Int))=w10 at *;obtain⟨m1,m2,m3,m4,m5⟩:=XN.out p1;have pl:=p2.lt;obtain⟨d0,d1,d2,d3,-⟩:=p2.four;obtain⟨g7,c7,W7,hrun,V7,r1',r2',r3'⟩:=XK.out p1 ⟨(na:Int),lp,(nb:Int),lq⟩ (by omega);clear XN XK p1 p2;go_wp2_with (at_builtin;refine ah rfl _ _ 23 rfl rfl rfl hrun ?_);go_roundw
        case rel=>exact⟨k+1,_,by go_num,by omega,by rw[hN2.out];exact V7⟩
        case measure=>simp[intOf];omega
      ·have hN3:Hid (e9 (ls.take (k+1)) F=e9 (ls.take k) F):=by
        show _=_;rw[hN.out,hlf.out,if_neg (by simpa using hm),List.append_nil]
       rw[decide_eq_false hm]at KT;clear hN hlf hKd XC XX XQ XS2 XE XL XW CLO X2 XM XO XB hl hcl hgl1;go_wp2_with fail;refine(KT.out K3).mono ?_;rintro e w6⟨rfl,K6⟩;have X6:=(KX.out K6).1;clear KT K3 K6 KX KCC KD;go_wp2_with fail;go_roundw
       case rel=>exact⟨k+1,vk,by go_num,by omega,by rw[hN3.out];exact X6⟩
       case measure=>simp[intOf];omega
section
variable {ds:List Dv}{ls:List Lk}{S M k:Nat}{bl:(Int × Int)->Option Nat}{T:Tab}{W W':World}
theorem SpV.kept(h:SpV ds ls S M bl T k W){B e size n:Nat}{v:Value}{xs:List Value}(ho:W.ownsRow B e size v n xs)(he:e≠44)(he2:e≠3)(hk:KeptBS W W' v.ownBlock):SpV ds ls S M bl T k W':=by
 have cells:∀{i:Nat} {c:Array Value} {t:TypeId},W.heap[i]?=some (.cells c t (0,0))->e≠t->W'.heap[i]?=W.heap[i]?:=λ{i c t} hi hne=>hk.block i (Array.getElem?_eq_some_iff.1 hi).1 λe2=>by
  obtain⟨_,_,cur,hc⟩:=q9 ho e2.symm;rw[hi]at hc;cases hc;exact hne rfl
 refine⟨(cells h.S he).trans h.S,h.map.same (hk.block _ h.map.lt λe2=>?_),λt b e=>?_,h.dom,h.inv,h.fix⟩
 ·obtain⟨_,_,cur,hc⟩:=q9 ho e2.symm;obtain⟨es,cl,h2⟩:=h.map.isMap;rw[hc]at h2;cases h2
 ·have hr:=h.row t b e;obtain⟨cs,h1,_⟩:=id hr;exact hr.same (cells h1 he2)
end
structure SideV(dx:List Dv)(lx:List Lk)(j:Int)(σ:Nat->Bool)(nS nA:Nat)(W:World):Prop where
 sp:∃(S M:Nat) (bl:(Int × Int)->Option Nat) (T:Tab) (k:Nat),SpV dx lx S M bl T k W/\Bk W nS #[.pointer (some ⟨S,0,none⟩)] 39/\σ=λc=>decide (0<=rndP dx T (j,0) (pkN c))
 a:Bk W nA #[.int .i64 j,.int .i64 0] 27
section
variable {dx:List Dv}{lx:List Lk}{j:Int}{σ:Nat->Bool}{nS nA:Nat}{W W':World}
theorem SideV.below(h:SideV dx lx j σ nS nA W)(hb:Below W.heap.size W W'):SideV dx lx j σ nS nA W':=by
 obtain⟨⟨S,M,bl,T,k,h1,h2,h3⟩,h4⟩:=h;exact⟨⟨S,M,bl,T,k,h1.grow hb,Bk.keep hb h2,h3⟩,Bk.keep hb h4⟩
theorem SideV.kept(h:SideV dx lx j σ nS nA W){B n:Nat}{v:Value}{xs:List Value}(ho:W.ownsRow B 72 1 v n xs)(hk:KeptBS W W' v.ownBlock):SideV dx lx j σ nS nA W':=by
 obtain⟨⟨S,M,bl,T,k,h1,h2,h3⟩,h4⟩:=h;have bk:∀{i:Nat} {c:Array Value} {t:TypeId},Bk W i c t->t≠72->Bk W' i c t:=λ{i c t} hi hne=>(hk.block i hi.lt λe2=>by
  obtain⟨_,_,cur,hc⟩:=q9 ho e2.symm;have hi:W.heap[i]?=_:=hi;rw[hi]at hc;cases hc;exact hne rfl).trans hi
 exact⟨⟨S,M,bl,T,k,h1.kept ho (by decide) (by decide) hk,bk h2 (by decide),h3⟩,bk h4 (by decide)⟩
theorem SideV.call(h:SideV dx lx j σ nS nA W)(hj:N9 (j,0))(c:Nat):Calls prog 27 #[pkV (pkN c),.pointer (some ⟨nS,0,none⟩),.pointer (some ⟨nA,0,none⟩)] W λe w'=>e=.returned (.bool (σ c))/\Below W.heap.size W w':=by
 obtain⟨⟨S,M,bl,T,k,h1,h2,h3⟩,h4⟩:=h;rw[h3];exact sJ (pkN c) W h1 hj (h2.at 0) (h4.at 0) (h4.at 1) h2.lt h4.lt
theorem SideV.says(h:SideV dx lx j σ nS nA W)(hz:netV dx lx=0)(hp:isPl dx j 0=true){K:Nat}(hK:dE dx lx K){c:Nat}(hc:c<16384):σ c=atF dx lx K j 0 (envOf 14 c):=by
 obtain⟨⟨S,M,bl,T,k,h1,h2,h3⟩,h4⟩:=h;obtain rfl:K=k:=re hz h1.inv h1.fix hK.1 hK.2;rw[h3,Bool.eq_iff_iff,decide_eq_true_iff,kat (t:=(j,0)) h1.inv hp hc (Nat.le_refl _)];unfold rndP;rw[if_pos ⟨hp,pkN_ok hc⟩,U8];rcases h1.inv.val (j,0) c hp hc with e|e
 ·omega
 ·exact⟨λ_=>e,λh=>h.1⟩
end
abbrev fnS(nS nA:Nat):Value:=.func (.func 27) #[] #[.pointer (some ⟨nS,0,none⟩),.pointer (some ⟨nA,0,none⟩)]
noncomputable abbrev U5 (ds:List Dv)(ls:List Lk)(s:List UInt8):Int:=(m8 (wholeF ds ls (hostFrom ds s 0)) (hostFrom ds s 0):Int)
theorem fX{ds:List Dv}{ls:List Lk}{s:List UInt8}(h:i6 ds ls s=0):N9 (U5 ds ls s,0)/\isPl (sliceD ds ls s) (U5 ds ls s) 0=true/\findFrom (sliceD ds ls s) s 0=U5 ds ls s:=by
 obtain⟨hz,i,hi,hl⟩:=jG h;obtain⟨_,h1,h2⟩:=tG hz hi;unfold U5 sliceD;rw[hi];refine⟨⟨?_,fC (by dsimp only;omega) (by dsimp only;omega)⟩,h2,h1⟩;have h3:m8 (wholeF ds ls (i:Int)) (i:Int)<=10:=by
  have:=(FOk.whole hz hl).len;have:=(l7 hz).1;have:m8 (wholeF ds ls (i:Int)) (i:Int)<=(wholeF ds ls (i:Int)).length:=List.countP_le_length;omega
 exact fC (by dsimp only;omega) (by dsimp only;omega)
theorem vh{da db:List Dv}{la lb:List Lk}{s:List UInt8}{σ τ:Nat->Bool}{n1 n2 n3 n4:Nat}{m x0 x1 x2 x3 k er y0 y1 y2 y3 k':Int}{W:World}(ha:i6 da la s=0)(hb:i6 db lb s=0)(hm:2<=m/\m<=40000)
  (h:AtX da la db lb s m x0 x1 x2 x3 k er) (hne:er≠6) (hA:SideV (sliceD da la s) (sliceL da la s) (U5 da la s) σ n1 n2 W) (hB:SideV (sliceD db lb s) (sliceL db lb s) (U5 db lb s) τ n3 n4 W) (hL:bS σ τ y0 y1 y2 y3 k'):er=0/\x0=y0/\x1=y1/\x2=y2/\x3=y3/\k=k':=by
 obtain⟨_,p1,q1⟩:=fX ha;obtain⟨_,p2,q2⟩:=fX hb;rcases h with⟨h,_⟩|⟨_,h,_⟩|⟨_,_,h,_⟩|⟨_,_,_,⟨_,_,_,_,_,h⟩|⟨Ka,Kb,h1,h2,h3⟩⟩
 ·exact absurd ha h
 ·exact absurd hb h
 ·exact absurd hm h
 ·exact absurd h hne
 have eA:∀c,c<16384->aG da la s Ka (envOf 14 c)=σ c:=λc hc=>by
  rw[hA.says (eX ha) p1 h1 hc];unfold aG;rw[q1]
 have eB:∀c,c<16384->aG db lb s Kb (envOf 14 c)=τ c:=λc hc=>by
  rw[hB.says (eX hb) p2 h2 hc];unfold aG;rw[q2]
 have inj:∀{a0 a1 a2 a3 a4 a5 b0 b1 b2 b3 b4 b5:Int},Ending.returned (.tuple #[pk a0 a1 a2 a3,.int .i64 a4,.int .i64 a5])=.returned (.tuple #[pk b0 b1 b2 b3,.int .i64 b4,.int .i64 b5])->a0=b0/\a1=b1/\a2=b2/\a3=b3/\a4=b4/\a5=b5:=λ{_ _ _ _ _ _ _ _ _ _ _ _} h=>by
  simp only[Ending.returned.injEq,Value.tuple.injEq,Array.mk.injEq,List.cons.injEq,Value.agg.injEq,Value.int.injEq,and_true,true_and]at h;obtain⟨⟨h1,h2,h3,h4⟩,h5,h6⟩:=h;exact⟨h1,h2,h3,h4,h5,h6⟩
 rcases h3 with⟨e,_⟩|⟨e,hx⟩|⟨c,e,hc1,hc2,hc3⟩
 ·exact absurd (inj e).2.2.2.2.2 hne
 ·obtain⟨rfl,rfl,rfl,rfl,rfl,rfl⟩:=inj e;rcases hL with⟨rfl,rfl,rfl,rfl,rfl,_⟩|⟨c,_,_,_,_,_,hl,hd,_⟩
  ·exact⟨rfl,rfl,rfl,rfl,rfl,rfl⟩
  ·exact absurd (by rw[<- eA c hl,<- eB c hl];exact hx _) hd
 ·obtain⟨rfl,rfl,rfl,rfl,rfl,rfl⟩:=inj e;dsimp only at hc2 hc3;rcases hL with⟨_,_,_,_,_,hs⟩|⟨d,rfl,rfl,rfl,rfl,rfl,hl,hd,hs⟩
  ·exact absurd (by rw[eA c hc1,eB c hc1];exact hs c hc1) hc2
  ·have hcd:c=d:=by
    rcases Nat.lt_trichotomy c d with l|l|l
    ·exact absurd (by rw[eA c hc1,eB c hc1];exact hs c l) hc2
    ·exact l
    ·exact absurd (by rw[<- eA d hl,<- eB d hl];exact hc3 d l) hd
   subst hcd;exact⟨rfl,rfl,rfl,rfl,rfl,by rw[eA c hc1]⟩
theorem vi{da db:List Dv}{la lb:List Lk}{s:List UInt8}{m x0 x1 x2 x3 k er:Int}(h:AtX da la db lb s m x0 x1 x2 x3 k er)(hn:i6 da la s≠0):x0=0/\x1=0/\x2=0/\x3=0/\k=0/\er=i6 da la s:=by
 rcases h with⟨_,h⟩|⟨h,_⟩|⟨h,_⟩|⟨h,_⟩
 ·exact h
 all_goals exact absurd h hn
theorem vj{da db:List Dv}{la lb:List Lk}{s:List UInt8}{m x0 x1 x2 x3 k er:Int}(h:AtX da la db lb s m x0 x1 x2 x3 k er)(ha:i6 da la s=0)(hn:i6 db lb s≠0):x0=0/\x1=0/\x2=0/\x3=0/\k=0/\er=i6 db lb s:=by
 rcases h with⟨h,_⟩|⟨_,_,h⟩|⟨_,h,_⟩|⟨_,h,_⟩
 ·exact absurd ha h
 ·exact h
 all_goals exact absurd h hn
theorem vo{da db:List Dv}{la lb:List Lk}{s:List UInt8}{m x0 x1 x2 x3 k er:Int}(h:AtX da la db lb s m x0 x1 x2 x3 k er)(ha:i6 da la s=0)(hb:i6 db lb s=0)(hm:¬(2<=m/\m<=40000)):x0=0/\x1=0/\x2=0/\x3=0/\k=0/\er=1:=by
 rcases h with⟨h,_⟩|⟨_,h,_⟩|⟨_,_,_,h⟩|⟨_,_,h,_⟩
 ·exact absurd ha h
 ·exact absurd hb h
 ·exact h
 ·exact absurd h hm
theorem vp{da db:List Dv}{la lb:List Lk}{s:List UInt8}{m x0 x1 x2 x3 k:Int}(h:AtX da la db lb s m x0 x1 x2 x3 k 6)(ha:i6 da la s=0)(hb:i6 db lb s=0)(hm:2<=m/\m<=40000):x0=0/\x1=0/\x2=0/\x3=0/\k=0:=by
 rcases h with⟨h,_⟩|⟨_,h,_⟩|⟨_,_,h,_⟩|⟨_,_,_,⟨h1,h2,h3,h4,h5,_⟩|⟨Ka,Kb,_,_,⟨e,_⟩|⟨e,_⟩|⟨c,e,_⟩⟩⟩
 ·exact absurd ha h
 ·exact absurd hb h
 ·exact absurd hm h
 ·exact⟨h1,h2,h3,h4,h5⟩
 all_goals simp only[Ending.returned.injEq,Value.tuple.injEq,Array.mk.injEq,List.cons.injEq,Value.agg.injEq,Value.int.injEq,and_true,true_and]at e
 ·obtain⟨⟨h1,h2,h3,h4⟩,h5⟩:=e;exact⟨h1,h2,h3,h4,h5⟩
 ·omega
 ·omega
end Go.Proofs.YtppbfikimalojaaGreat
