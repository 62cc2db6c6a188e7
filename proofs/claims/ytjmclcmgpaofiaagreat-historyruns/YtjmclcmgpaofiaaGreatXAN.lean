/-
  XAN.
-/
import Derived.Test.YtjmclcmgpaofiaaGreatXLy
import Derived.Test.YtjmclcmgpaofiaaGreatXAM
import Derived.Deep.DeepCutAuto
import Derived.BigQuiet
import Derived.Deep.RegionLaw
import Derived.Test.YtjmclcmgpaofiaaGreatXAG
import Derived.Test.YtjmclcmgpaofiaaGreatXAL
set_option maxHeartbeats 8000000
set_option maxRecDepth 100000
namespace Go.Proofs.YtjmclcmgpaofiaaGreat
open Tryz
open Go.RowKit Go.Maps
structure Ws(bR R MR a7:Nat)(nsR:List Nd)(w:World)(a9 q a M:Nat)(dv pv:Array Value)(g:Nat)(fs:List (Nat × (Env->Bool)))(W:World):Prop where
 bn:∃ns er,Bn a9 q a M W W ns er /\ (∀x∈fs,Fn ns er x.1 x.2) /\ (er=0->ns.length<=2+g) /\ (er≠0->40000<=2+g)
 ar:Ar bR R MR 14 a7 W nsR
 lt:R<w.heap.size /\ MR<w.heap.size /\ rowOf W R<w.heap.size /\ w.heap.size+1<a9
 dz:Bz W w.heap.size dv 70
 pz:Bz W (w.heap.size+1) pv 87
 bel:Below w w W
section
variable {bR R MR a7 a9 q a M:Nat}{nsR:List Nd}{w W W':World}{dv pv:Array Value}{g g':Nat}{fs:List (Nat × (Env->Bool))}
theorem Bn.root{a9 q a M:Nat}{w0 w:World}{ns:List Nd}{er:Int}(h:Bn a9 q a M w0 w ns er):Bn a9 q a M w w ns er:=⟨h.ar,h.blk,h.lo,h.er6,Below.refl _ _⟩
theorem Ws.call{F:FuncId}{args:Array Value}{φ:Env->Bool}(s:Ws bR R MR a7 nsR w a9 q a M dv pv g fs W)(c:∀ns er,Bn a9 q a M W W ns er->(∀x∈fs,Fn ns er x.1 x.2)->Cl F args W (BOut a9 q a M W W ns er g' φ)) :
  Cl F args W λe w'=>∃f:Nat,e=.returned (f:Int) /\ Ws bR R MR a7 nsR w a9 q a M dv pv (g+g') ((f,φ)::fs) w':=by
 obtain⟨ns,er,b,hf,l1,l2⟩:=s.bn;obtain⟨r1,r2,r3,r4⟩:=s.lt;refine(c ns er b hf).mono λe w2 B=>?_;obtain⟨f,ns2,er2,rfl,⟨b1,tf⟩,X,ho,h1,hg⟩:=B;have hb:=b1.bel;have low:∀i,i<a9->w2.heap[i]?=W.heap[i]?:=λi hi=>hb.block i hi;refine⟨f,rfl,⟨ns2,er2,b1.root,λx hx=>?_,λe=>?_,λe=>?_⟩,s.ar.same (low _ (by omega)) (low _ (by omega)) (low _ (by omega)),⟨r1,r2,?_,r4⟩,(low _ (by omega)).trans s.dz,(low _ (by omega)).trans s.pz,s.bel.trans (hb.mono (by omega))⟩
 ·rcases List.mem_cons.1 hx with rfl|hx
  ·exact h1
  ·exact(hf x hx).step b.ar.wf b1.ar.wf X ho
 ·have e0:=ho e;have:=l1 e0;have:=(hg.out e0).1;omega
 ·by_cases e0:er=0
  ·have:=l1 e0;have:=(hg.out e0).2 e;omega
  ·have:=l2 e0;omega
 ·rw[aQ (low R (by omega))];exact r3
theorem Ws.setp(s:Ws bR R MR a7 nsR w a9 q a M dv pv g fs W)(j:Nat)(u:Value):Ws bR R MR a7 nsR w a9 q a M dv (pv.setIfInBounds j u) g fs (W.setCell ⟨w.heap.size+1,j,none⟩ u):=by
 obtain⟨ns,er,b,hf,l1,l2⟩:=s.bn;obtain⟨r1,r2,r3,r4⟩:=s.lt;have hF:∀i,i≠w.heap.size+1->(W.setCell ⟨w.heap.size+1,j,none⟩ u).heap[i]?=W.heap[i]?:=λi hi=>Below.heap_setCell W ⟨w.heap.size+1,j,none⟩ u i hi;have k1:=b.ar.lowA;have k2:=b.ar.lowM;have k3:=b.ar.row.choose_spec.2.1;have k4:=b.lo;refine⟨⟨ns,er,⟨b.ar.same (hF _ (by omega)) (hF _ (by omega)) (hF _ (by omega)),(hF _ (by omega)).trans b.blk,b.lo,b.er6,Below.refl _ _⟩,hf,l1,l2⟩,s.ar.same (hF _ (by omega)) (hF _ (by omega)) (hF _ (by omega)),⟨r1,r2,?_,r4⟩,(hF _ (by omega)).trans s.dz,s.pz.set (j:=j) u,s.bel.setCell (p:=⟨w.heap.size+1,j,none⟩) (by show w.heap.size<=w.heap.size+1;omega) _⟩;rw[aQ (hF R (by omega))];exact r3
theorem Ws.drew(s:Ws bR R MR a7 nsR w a9 q a M dv pv g fs W):Ws bR R MR a7 nsR w a9 q a M dv pv g fs W.drew:=by
 obtain⟨ns,er,b,hf,l1,l2⟩:=s.bn;exact⟨⟨ns,er,b.drew.root,hf,l1,l2⟩,s.ar.drewT,s.lt,s.dz,s.pz,s.bel.drew⟩
def dZ(w:World)(bR R MR a7:Nat)(nsR:List Nd)(gW gB:Nat)(φ:Env->Bool)(e:Ending)(w':World):Prop :=
 ∃(nsR':List Nd) (v er:Int),e=.returned (.tuple #[v,er]) /\ Ar bR R MR 14 a7 w' nsR' /\ Kp (ca bR R MR 14 a7) w w' /\ Ext nsR nsR' /\ nsR'.length<=nsR.length+gW /\
   Hid ((er=0 /\ ∃f:Nat,v=(f:Int) /\ f<nsR'.length /\ ∀x,ev nsR' f x=φ x)\/(er=6 /\ v=0 /\ (40000<=2+gB\/a7<=nsR.length+gW)))
theorem mC(hR:Ar bR R MR 14 a7 w nsR){nm:ByteArray}{kd ad pl:Int}{Ab A At:Option Addr}{nb cb n cap nt ct:Nat}{f0 f1 f2 f3:Nat}{pt:Int}{set gS gO:Nat}{ψ:Env->Bool}(SS S2:Nat->Bool)(hs:set<nsR.length)(l0:f0<nsR.length)(l1:f1<nsR.length)(l2:f2<nsR.length)(l3:f3<nsR.length)(ds:DepS SS (ev nsR set))(d0:DepS SS (ev nsR f0))(d1:DepS SS (ev nsR f1))(d2:DepS SS (ev nsR f2))(d3:DepS SS (ev nsR f3))(dr:DepS S2 (λx=>ev nsR set x||ψ x))
  (SND:∀a9 q a M w0 W ns er (i0 i1 i2 i3:Nat),Below w w w0->w.heap.size<=a9->Bn a9 q a M w0 W ns er->Fn ns er i0 (ev nsR f0)->Fn ns er i1 (ev nsR f1)->Fn ns er i2 (ev nsR f2)->Fn ns er i3 (ev nsR f3)->Cl 107 #[.pointer (some ⟨q,0,none⟩),.agg #[.string nm,kd,ad,.int .u8 pl,.slice Ab nb cb,.slice A n cap,.slice At nt ct],pt,.agg #[(i0:Int),(i1:Int),(i2:Int),(i3:Int)]] W (BOut a9 q a M w0 W ns er gS ψ))
  (OB:∀a9 q a M w0,OrB a9 q a M w0 (ev nsR set) ψ gO) :
  Cl 63 #[.pointer R,(set:Int),.agg #[.string nm,kd,ad,.int .u8 pl,.slice Ab nb cb,.slice A n cap,.slice At nt ct],pt,.agg #[(f0:Int),(f1:Int),(f2:Int),(f3:Int)]] w (dZ w bR R MR a7 nsR (2 ^ cnS S2 14 0-1) (4*(2 ^ cnS SS 14 0-1)+(2 ^ cnS SS 14 0-1)+gS+gO) (λx=>ev nsR set x||ψ x)):=by
 have D0:Below w w ((w.alloc (.cells #[.string nm,kd,ad,.int .u8 pl,.slice Ab nb cb,.slice A n cap,.slice At nt ct] 70)).alloc (.cells #[(f0:Int),(f1:Int),(f2:Int),(f3:Int)] 87)):=((Below.refl _ w).alloc (Nat.le_refl _) _).alloc (by simp) _;have Z1:Bz ((w.alloc (.cells #[.string nm,kd,ad,.int .u8 pl,.slice Ab nb cb,.slice A n cap,.slice At nt ct] 70)).alloc (.cells #[(f0:Int),(f1:Int),(f2:Int),(f3:Int)] 87)) w.heap.size #[.string nm,kd,ad,.int .u8 pl,.slice Ab nb cb,.slice A n cap,.slice At nt ct] 70:=(Bz.new w _ _ _ rfl).al _;have Z2:Bz ((w.alloc (.cells #[.string nm,kd,ad,.int .u8 pl,.slice Ab nb cb,.slice A n cap,.slice At nt ct] 70)).alloc (.cells #[(f0:Int),(f1:Int),(f2:Int),(f3:Int)] 87)) (w.heap.size+1) #[(f0:Int),(f1:Int),(f2:Int),(f3:Int)] 87:=Bz.new (w.alloc _) _ _ _ (by show _=(w.heap.push _).size;rw[Array.size_push]);have NBC:Hid (Cl 66 #[] ((w.alloc (.cells #[.string nm,kd,ad,.int .u8 pl,.slice Ab nb cb,.slice A n cap,.slice At nt ct] 70)).alloc (.cells #[(f0:Int),(f1:Int),(f2:Int),(f3:Int)] 87)) λe w'=>∃q a M,e=.returned (.tuple #[.pointer (some ⟨q,0,none⟩),.int .i64 0]) /\ Hid (Ws bR R MR a7 nsR w ((w.alloc (.cells #[.string nm,kd,ad,.int .u8 pl,.slice Ab nb cb,.slice A n cap,.slice At nt ct] 70)).alloc (.cells #[(f0:Int),(f1:Int),(f2:Int),(f3:Int)] 87)).heap.size q a M #[.string nm,kd,ad,.int .u8 pl,.slice Ab nb cb,.slice A n cap,.slice At nt ct] #[(f0:Int),(f1:Int),(f2:Int),(f3:Int)] (0*(2 ^ cnS SS 14 0-1)) [] w')):=(qk ((w.alloc (.cells #[.string nm,kd,ad,.int .u8 pl,.slice Ab nb cb,.slice A n cap,.slice At nt ct] 70)).alloc (.cells #[(f0:Int),(f1:Int),(f2:Int),(f3:Int)] 87))).mono λe w' ⟨q,a,M,e1,b⟩=>⟨q,a,M,e1,by
  have hb:=b.bel;have r1:=hR.lta;have r2:=hR.ltM;have r3:=hR.row.choose_spec.2.2;have hz:((w.alloc (.cells #[.string nm,kd,ad,.int .u8 pl,.slice Ab nb cb,.slice A n cap,.slice At nt ct] 70)).alloc (.cells #[(f0:Int),(f1:Int),(f2:Int),(f3:Int)] 87)).heap.size=w.heap.size+1+1:=by simp
  have D1:=D0.trans (hb.mono (by omega));refine⟨⟨_,_,b.root,(λx hx=>by cases hx),(λ_=>by simp),λh=>absurd rfl h⟩,hR.same (D1.block _ r1) (D1.block _ r2) (D1.block _ r3),⟨r1,r2,?_,by omega⟩,(hb.block _ (by omega)).trans Z1,(hb.block _ (by omega)).trans Z2,D1⟩;rw[aQ (D1.block _ r1)];exact r3⟩
 have p0:=Z2.cell 0 (.int .i64 (f0:Int)) rfl;clear D0 p0;have ix0:∀W:World,(Instr.index 87 (.agg #[(f0:Int),(f1:Int),(f2:Int),(f3:Int)]) (.int .i64 0)).run prog W=.ok (.int .i64 (f0:Int)) W:=λW=>by
  first
   | rfl
   | kernel_rfl
   | (simp[go_sem,underlying87])
 have ix1:∀W:World,(Instr.index 87 (.agg #[(f0:Int),(f1:Int),(f2:Int),(f3:Int)]) (.int .i64 1)).run prog W=.ok (.int .i64 (f1:Int)) W:=λW=>by
  first
   | rfl
   | kernel_rfl
   | (simp[go_sem,underlying87])
 have ix2:∀W:World,(Instr.index 87 (.agg #[(f0:Int),(f1:Int),(f2:Int),(f3:Int)]) (.int .i64 2)).run prog W=.ok (.int .i64 (f2:Int)) W:=λW=>by
  first
   | rfl
   | kernel_rfl
   | (simp[go_sem,underlying87])
 have ix3:∀W:World,(Instr.index 87 (.agg #[(f0:Int),(f1:Int),(f2:Int),(f3:Int)]) (.int .i64 3)).run prog W=.ok (.int .i64 (f3:Int)) W:=λW=>by
  first
   | rfl
   | kernel_rfl
   | (simp[go_sem,underlying87])
 clear Z1 Z2;go_enter func63,ntmps63;go_wp2_with fail;with_reducible refine NBC.out.mono ?_
 rintro e w2⟨q,a,M,rfl,W2⟩;clear NBC;generalize hB0:((w.alloc (.cells #[.string nm,kd,ad,.int .u8 pl,.slice Ab nb cb,.slice A n cap,.slice At nt ct] 70)).alloc (.cells #[(f0:Int),(f1:Int),(f2:Int),(f3:Int)] 87)).heap.size=a9 at *;have hbb:Hid (w.heap.size<=a9):=by show _<=_;rw[<- hB0];simp;omega
 clear hB0;obtain⟨V,hV⟩:∃V:Array Value->Nat->List (Nat × (Env->Bool))->World->Prop,V=λpv g fs W=>Ws bR R MR a7 nsR w a9 q a M #[.string nm,kd,ad,.int .u8 pl,.slice Ab nb cb,.slice A n cap,.slice At nt ct] pv g fs W:=⟨_,rfl⟩;have V2:V #[(f0:Int),(f1:Int),(f2:Int),(f3:Int)] (0*(2 ^ cnS SS 14 0-1)) [] w2:=by rw[hV];exact W2.out
 have TK:Hid (∀{pv:Array Value} {g:Nat} {fs:List (Nat × (Env->Bool))} {W:World} (f:Nat),f<nsR.length->DepS SS (ev nsR f)->V pv g fs W->Cl 68 #[.pointer (some ⟨q,0,none⟩),.pointer R,(f:Int)] W λe w'=>∃i:Nat,e=.returned (i:Int) /\ V pv (g+(2 ^ cnS SS 14 0-1)) ((i,ev nsR f)::fs) w'):=λ{pv g fs W} f hf hd hq=>by
  rw[hV]at hq ⊢;obtain⟨r1,r2,r3,r4⟩:=hq.lt;exact hq.call λ_ _ b _=>qp SS b hq.ar (by omega) (by omega) (by omega) hf hd
 have SN:Hid (∀{g:Nat} {fs:List (Nat × (Env->Bool))} {W:World} {j0 j1 j2 j3:Nat},V #[(j0:Int),(j1:Int),(j2:Int),(j3:Int)] g fs W->(j0,ev nsR f0)∈fs->(j1,ev nsR f1)∈fs->(j2,ev nsR f2)∈fs->(j3,ev nsR f3)∈fs->Cl 107 #[.pointer (some ⟨q,0,none⟩),.agg #[.string nm,kd,ad,.int .u8 pl,.slice Ab nb cb,.slice A n cap,.slice At nt ct],pt,.agg #[(j0:Int),(j1:Int),(j2:Int),(j3:Int)]] W λe w'=>∃i:Nat,e=.returned (i:Int) /\ V #[(j0:Int),(j1:Int),(j2:Int),(j3:Int)] (g+gS) ((i,ψ)::fs) w'):=λ{g fs W j0 j1 j2 j3} hq m0 m1 m2 m3=>by
  rw[hV]at hq ⊢;exact hq.call λ_ _ b hf=>SND _ _ _ _ _ _ _ _ _ _ _ _ hq.bel hbb.out b (hf _ m0) (hf _ m1) (hf _ m2) (hf _ m3)
 have OR:Hid (∀{pv:Array Value} {g:Nat} {fs:List (Nat × (Env->Bool))} {W:World} (i j:Nat),V pv g fs W->(i,ev nsR set)∈fs->(j,ψ)∈fs->Cl 106 #[.pointer (some ⟨q,0,none⟩),(i:Int),(j:Int)] W λe w'=>∃f:Nat,e=.returned (f:Int) /\ V pv (g+gO) ((f,(λx=>ev nsR set x||ψ x))::fs) w'):=λ{pv g fs W} i j hq m1 m2=>by
  rw[hV]at hq ⊢;exact hq.call λ_ _ b hf=>OB _ _ _ _ _ _ _ _ _ _ b (hf _ m1) (hf _ m2)
 have SP:∀{pv:Array Value} {g:Nat} {fs:List (Nat × (Env->Bool))} {W:World} (j:Nat) (u:Value),V pv g fs W->V (pv.setIfInBounds j u) g fs (W.setCell ⟨w.heap.size+1,j,none⟩ u):=λ{pv g fs W} j u hq=>by rw[hV]at hq ⊢;exact hq.setp j u
 have DRW:∀{pv:Array Value} {g:Nat} {fs:List (Nat × (Env->Bool))} {W:World},V pv g fs W->V pv g fs W.drew:=λ{pv g fs W} hq=>by rw[hV]at hq ⊢;exact hq.drew
 have HC:Hid (∀{g:Nat} {fs:List (Nat × (Env->Bool))} {W:World} {j0 j1 j2 j3:Nat},V #[(j0:Int),(j1:Int),(j2:Int),(j3:Int)] g fs W->(W.cell? ⟨w,0,none⟩=some (.string nm) /\ W.cell? ⟨w,1,none⟩=some (.int .i64 kd) /\ W.cell? ⟨w,2,none⟩=some (.int .i64 ad) /\ W.cell? ⟨w,3,none⟩=some (.int .u8 pl) /\ W.cell? ⟨w,4,none⟩=some (.slice Ab nb cb) /\ W.cell? ⟨w,5,none⟩=some (.slice A n cap) /\ W.cell? ⟨w,6,none⟩=some (.slice At nt ct)) /\ (W.cell? ⟨w.heap.size+1,0,none⟩=some (.int .i64 (j0:Int)) /\ W.cell? ⟨w.heap.size+1,1,none⟩=some (.int .i64 (j1:Int)) /\ W.cell? ⟨w.heap.size+1,2,none⟩=some (.int .i64 (j2:Int)) /\ W.cell? ⟨w.heap.size+1,3,none⟩=some (.int .i64 (j3:Int))) /\ (W.frozen? ⟨w.heap.size+1,0,none⟩=false /\ W.frozen? ⟨w.heap.size+1,1,none⟩=false /\ W.frozen? ⟨w.heap.size+1,2,none⟩=false /\ W.frozen? ⟨w.heap.size+1,3,none⟩=false)):=λ{g fs W j0 j1 j2 j3} hq=>by
  rw[hV]at hq;exact⟨⟨hq.dz.cell 0 _ rfl,hq.dz.cell 1 _ rfl,hq.dz.cell 2 _ rfl,hq.dz.cell 3 _ rfl,hq.dz.cell 4 _ rfl,hq.dz.cell 5 _ rfl,hq.dz.cell 6 _ rfl⟩,⟨hq.pz.cell 0 _ rfl,hq.pz.cell 1 _ rfl,hq.pz.cell 2 _ rfl,hq.pz.cell 3 _ rfl⟩,hq.pz.free 0,hq.pz.free 1,hq.pz.free 2,hq.pz.free 3⟩
 have ERR:Hid (∀{pv:Array Value} {fs:List (Nat × (Env->Bool))} {W:World} (f:Nat),V pv (4*(2 ^ cnS SS 14 0-1)+(2 ^ cnS SS 14 0-1)+gS+gO) fs W->(f,(λx=>ev nsR set x||ψ x))∈fs->∃er:Int,W.cell? ⟨q,0,none⟩=some (.pointer (some ⟨a,0,none⟩)) /\ W.cell? ⟨q,1,none⟩=some (.int .i64 er) /\ Hid (¬er=0->dZ w bR R MR a7 nsR (2 ^ cnS S2 14 0-1) (4*(2 ^ cnS SS 14 0-1)+(2 ^ cnS SS 14 0-1)+gS+gO) (λx=>ev nsR set x||ψ x) (.returned (.tuple #[.int .i64 0,er])) W) /\ Hid (er=0->Cl 108 #[.pointer R,.pointer (some ⟨a,0,none⟩),(f:Int)] W λe w'=>∃v e2:Int,e=.returned (.tuple #[v,e2]) /\ w'.cell? ⟨q,0,none⟩=some (.pointer (some ⟨a,0,none⟩)) /\ dZ w bR R MR a7 nsR (2 ^ cnS S2 14 0-1) (4*(2 ^ cnS SS 14 0-1)+(2 ^ cnS SS 14 0-1)+gS+gO) (λx=>ev nsR set x||ψ x) (.returned (.tuple #[v,e2])) w')):=λ{pv fs W} f hq m=>by
  rw[hV]at hq;obtain⟨ns,er,b,hf,b1,b2⟩:=hq.bn;obtain⟨r1,r2,r3,r4⟩:=hq.lt;have kb:=hR.kbelow hq.bel;refine⟨er,b.blk.cell 0 _ rfl,b.blk.cell 1 _ rfl,λhe=>?_,λhe=>?_⟩
  ·have:=b.er6.resolve_left he;subst this;exact⟨nsR,0,6,rfl,hq.ar,kb,Ext.refl _,by omega,Or.inr ⟨rfl,rfl,Or.inl (b2 (by decide))⟩⟩
  ·have hfn:=hf _ m;have e1:ev ns f=(λx=>ev nsR set x||ψ x):=funext (hfn.2 he);have l1:=b.ar.lowA;have l2:=b.ar.lowM;have l3:=b.ar.row.choose_spec.2.1;refine(kK S2 hq.ar b.ar (Nat.le_refl _) (λi hi=>by rcases hi with rfl|rfl|rfl <;> exact⟨by omega,by omega,by omega⟩) hfn.1 ⟨(e1 ▸ dr),cW (Nat.zero_le _)⟩ (Nat.le_trans (fL 0) (by omega))).mono λe w' hp=>?_;obtain⟨ns',A1,k1,X1,n1,hp⟩:=hp;have cq:=((hq.ar.outBox b.blk (by decide) (by decide)).kp k1).blk;have cq0:w'.cell? ⟨q,0,none⟩=some (.pointer (some ⟨a,0,none⟩)):=Bz.cell cq 0 _ rfl;rcases hp with⟨f',e2,e3,e4⟩|⟨e2,e3⟩
   ·exact⟨(f':Int),0,e2,cq0,ns',f',0,rfl,A1,kb.trans k1,X1,n1,Or.inl ⟨rfl,f',rfl,e3,λx=>by rw[e4 x,e1]⟩⟩
   ·exact⟨0,6,e2,cq0,ns',0,6,rfl,A1,kb.trans k1,X1,n1,Or.inr ⟨rfl,rfl,Or.inr (by omega)⟩⟩
 have T0:Hid (DepS SS (ev nsR f0) /\ DepS SS (ev nsR f1) /\ DepS SS (ev nsR f2) /\ DepS SS (ev nsR f3) /\ DepS SS (ev nsR set)):=⟨d0,d1,d2,d3,ds⟩;clear hV W2 hbb SND OB ds d0 d1 d2 d3 dr hR;have FX0:Hid (∀gT gW,gT=(2 ^ cnS SS 14 0-1)->gW=(2 ^ cnS S2 14 0-1)->∀e w',dZ w bR R MR a7 nsR gW (4*gT+gT+gS+gO) (λx=>ev nsR set x||ψ x) e w'->dZ w bR R MR a7 nsR (2 ^ cnS S2 14 0-1) (4*(2 ^ cnS SS 14 0-1)+(2 ^ cnS SS 14 0-1)+gS+gO) (λx=>ev nsR set x||ψ x) e w'):=λgT gW h1 h2 e w' hw=>by
  rw[h1,h2]at hw;exact hw
 obtain⟨gT,hgT⟩:∃gT,gT=(2 ^ cnS SS 14 0-1):=⟨_,rfl⟩;obtain⟨gW,hgW⟩:∃gW,gW=(2 ^ cnS S2 14 0-1):=⟨_,rfl⟩;have FX:Hid (∀e w',dZ w bR R MR a7 nsR gW (4*gT+gT+gS+gO) (λx=>ev nsR set x||ψ x) e w'->dZ w bR R MR a7 nsR (2 ^ cnS S2 14 0-1) (4*(2 ^ cnS SS 14 0-1)+(2 ^ cnS SS 14 0-1)+gS+gO) (λx=>ev nsR set x||ψ x) e w'):=FX0.out gT gW hgT hgW;rw[<- hgT]at V2 TK ERR;rw[<- hgW]at ERR;clear FX0 hgT hgW;obtain⟨_,⟨c0,c1,c2,c3⟩,_⟩:=HC.out V2;go_wp2_with fail;clear c0 c1 c2 c3;go_loopw[25] (λi wr=>∃(k j0 j1 j2 j3:Nat) (fs:List (Nat × (Env->Bool))),i=.int .i64 (k:Int) /\ k<=4 /\ V #[(j0:Int),(j1:Int),(j2:Int),(j3:Int)] (k*gT) fs wr /\ Hid ((0<k->(j0,ev nsR f0)∈fs) /\ (1<k->(j1,ev nsR f1)∈fs) /\ (2<k->(j2,ev nsR f2)∈fs) /\ (3<k->(j3,ev nsR f3)∈fs))) (λi _=>4-(intOf i).toNat)
 case atStart=>exact⟨0,f0,f1,f2,f3,[],rfl,by omega,V2,⟨λh=>by omega,λh=>by omega,λh=>by omega,λh=>by omega⟩⟩
 case round =>
  clear V2;obtain⟨k,j0,j1,j2,j3,fs,rfl,hk,V1,hm⟩:=hrel;by_cases hlt:k<4
  ·have hK:k=0\/k=1\/k=2\/k=3:=by omega
   clear SN OR ERR hlt;rcases hK with rfl|rfl|rfl|rfl
   ·have C1:Hid (Cl 68 #[.pointer (some ⟨q,0,none⟩),.pointer R,(f0:Int)] wr λe w'=>∃i:Nat,e=.returned (i:Int) /\ V #[(j0:Int),(j1:Int),(j2:Int),(j3:Int)] (0*gT+gT) ((i,ev nsR f0)::fs) w'):=TK.out f0 l0 T0.out.1 V1;clear TK V1;go_wp2_with fail;with_reducible refine C1.out.mono ?_
    rintro e w3⟨i,rfl,V3⟩;have V4:V #[(i:Int),(j1:Int),(j2:Int),(j3:Int)] ((0+1)*gT) ((i,ev nsR f0)::fs) (w3.setCell ⟨w.heap.size+1,0,none⟩ (.int .i64 (i:Int))):=by
     rw[show(0+1)*gT=0*gT+gT from Nat.succ_mul 0 gT];exact SP 0 (.int .i64 (i:Int)) V3
    obtain⟨_,⟨c0,c1,c2,c3⟩,z0,z1,z2,z3⟩:=HC.out V3;clear C1 SP HC;go_wp2_with fail;go_roundw
    case rel=>exact⟨0+1,i,j1,j2,j3,_,rfl,by omega,V4,⟨λ_=>List.Mem.head _,λh=>by omega,λh=>by omega,λh=>by omega⟩⟩
    case measure=>simp[intOf]
   ·have C1:Hid (Cl 68 #[.pointer (some ⟨q,0,none⟩),.pointer R,(f1:Int)] wr λe w'=>∃i:Nat,e=.returned (i:Int) /\ V #[(j0:Int),(j1:Int),(j2:Int),(j3:Int)] (1*gT+gT) ((i,ev nsR f1)::fs) w'):=TK.out f1 l1 T0.out.2.1 V1;clear TK V1;go_wp2_with fail;with_reducible refine C1.out.mono ?_
    rintro e w3⟨i,rfl,V3⟩;have V4:V #[(j0:Int),(i:Int),(j2:Int),(j3:Int)] ((1+1)*gT) ((i,ev nsR f1)::fs) (w3.setCell ⟨w.heap.size+1,1,none⟩ (.int .i64 (i:Int))):=by
     rw[show(1+1)*gT=1*gT+gT from Nat.succ_mul 1 gT];exact SP 1 (.int .i64 (i:Int)) V3
    obtain⟨_,⟨c0,c1,c2,c3⟩,z0,z1,z2,z3⟩:=HC.out V3;clear C1 SP HC;go_wp2_with fail;go_roundw
    case rel=>exact⟨1+1,j0,i,j2,j3,_,rfl,by omega,V4,⟨λ_=>List.Mem.tail _ (hm.out.1 (by omega)),λ_=>List.Mem.head _,λh=>by omega,λh=>by omega⟩⟩
    case measure=>simp[intOf]
   ·have C1:Hid (Cl 68 #[.pointer (some ⟨q,0,none⟩),.pointer R,(f2:Int)] wr λe w'=>∃i:Nat,e=.returned (i:Int) /\ V #[(j0:Int),(j1:Int),(j2:Int),(j3:Int)] (2*gT+gT) ((i,ev nsR f2)::fs) w'):=TK.out f2 l2 T0.out.2.2.1 V1;clear TK V1;go_wp2_with fail;with_reducible refine C1.out.mono ?_
    rintro e w3⟨i,rfl,V3⟩;have V4:V #[(j0:Int),(j1:Int),(i:Int),(j3:Int)] ((2+1)*gT) ((i,ev nsR f2)::fs) (w3.setCell ⟨w.heap.size+1,2,none⟩ (.int .i64 (i:Int))):=by
     rw[show(2+1)*gT=2*gT+gT from Nat.succ_mul 2 gT];exact SP 2 (.int .i64 (i:Int)) V3
    obtain⟨_,⟨c0,c1,c2,c3⟩,z0,z1,z2,z3⟩:=HC.out V3;clear C1 SP HC;go_wp2_with fail;go_roundw
    case rel=>exact⟨2+1,j0,j1,i,j3,_,rfl,by omega,V4,⟨λ_=>List.Mem.tail _ (hm.out.1 (by omega)),λ_=>List.Mem.tail _ (hm.out.2.1 (by omega)),λ_=>List.Mem.head _,λh=>by omega⟩⟩
    case measure=>simp[intOf]
   ·have C1:Hid (Cl 68 #[.pointer (some ⟨q,0,none⟩),.pointer R,(f3:Int)] wr λe w'=>∃i:Nat,e=.returned (i:Int) /\ V #[(j0:Int),(j1:Int),(j2:Int),(j3:Int)] (3*gT+gT) ((i,ev nsR f3)::fs) w'):=TK.out f3 l3 T0.out.2.2.2.1 V1;clear TK V1;go_wp2_with fail;with_reducible refine C1.out.mono ?_
    rintro e w3⟨i,rfl,V3⟩;have V4:V #[(j0:Int),(j1:Int),(j2:Int),(i:Int)] ((3+1)*gT) ((i,ev nsR f3)::fs) (w3.setCell ⟨w.heap.size+1,3,none⟩ (.int .i64 (i:Int))):=by
     rw[show(3+1)*gT=3*gT+gT from Nat.succ_mul 3 gT];exact SP 3 (.int .i64 (i:Int)) V3
    obtain⟨_,⟨c0,c1,c2,c3⟩,z0,z1,z2,z3⟩:=HC.out V3;clear C1 SP HC;go_wp2_with fail;go_roundw
    case rel=>exact⟨3+1,j0,j1,j2,i,_,rfl,by omega,V4,⟨λ_=>List.Mem.tail _ (hm.out.1 (by omega)),λ_=>List.Mem.tail _ (hm.out.2.1 (by omega)),λ_=>List.Mem.tail _ (hm.out.2.2.1 (by omega)),λ_=>List.Mem.head _⟩⟩
    case measure=>simp[intOf]
  ·obtain rfl:k=4:=by omega
   obtain⟨m0,m1,m2,m3⟩:=hm.out;have M0:Hid ((j0,ev nsR f0)∈fs /\ (j1,ev nsR f1)∈fs /\ (j2,ev nsR f2)∈fs /\ (j3,ev nsR f3)∈fs):=⟨m0 (by omega),m1 (by omega),m2 (by omega),m3 (by omega)⟩;have V2:=DRW V1;have HC2:Hid (∀{g:Nat} {fs:List (Nat × (Env->Bool))} {W:World},V #[(j0:Int),(j1:Int),(j2:Int),(j3:Int)] g fs W->W.cell? ⟨w,0,none⟩=some (.string nm) /\ W.cell? ⟨w,1,none⟩=some (.int .i64 kd) /\ W.cell? ⟨w,2,none⟩=some (.int .i64 ad) /\ W.cell? ⟨w,3,none⟩=some (.int .u8 pl) /\ W.cell? ⟨w,4,none⟩=some (.slice Ab nb cb) /\ W.cell? ⟨w,5,none⟩=some (.slice A n cap) /\ W.cell? ⟨w,6,none⟩=some (.slice At nt ct) /\ W.cell? ⟨w.heap.size+1,0,none⟩=some (.int .i64 (j0:Int)) /\ W.cell? ⟨w.heap.size+1,1,none⟩=some (.int .i64 (j1:Int)) /\ W.cell? ⟨w.heap.size+1,2,none⟩=some (.int .i64 (j2:Int)) /\ W.cell? ⟨w.heap.size+1,3,none⟩=some (.int .i64 (j3:Int))):=λ{g fs W} hq=>by
    obtain⟨⟨q0,q1,q2,q3,q4,q5,q6⟩,⟨c0,c1,c2,c3⟩,_⟩:=HC.out hq;exact⟨q0,q1,q2,q3,q4,q5,q6,c0,c1,c2,c3⟩
   clear V1 hm m0 m1 m2 m3 SP HC hlt hk;go_wp2_with fail;go_cut [16] (λv wx=>∃(f:Nat) (fs:List (Nat × (Env->Bool))),v=.int .i64 (f:Int) /\ V #[(j0:Int),(j1:Int),(j2:Int),(j3:Int)] (4*gT+gT+gS+gO) fs wx /\ (f,(λx=>ev nsR set x||ψ x))∈fs)
   case first =>
    go_region_held3 (λw'=>w'.cell? ⟨w,0,none⟩=some (.string nm) /\ w'.cell? ⟨w,1,none⟩=some (.int .i64 kd) /\ w'.cell? ⟨w,2,none⟩=some (.int .i64 ad) /\ w'.cell? ⟨w,3,none⟩=some (.int .u8 pl) /\ w'.cell? ⟨w,4,none⟩=some (.slice Ab nb cb) /\ w'.cell? ⟨w,5,none⟩=some (.slice A n cap) /\ w'.cell? ⟨w,6,none⟩=some (.slice At nt ct) /\ w'.cell? ⟨w.heap.size+1,0,none⟩=some (.int .i64 (j0:Int)) /\ w'.cell? ⟨w.heap.size+1,1,none⟩=some (.int .i64 (j1:Int)) /\ w'.cell? ⟨w.heap.size+1,2,none⟩=some (.int .i64 (j2:Int)) /\ w'.cell? ⟨w.heap.size+1,3,none⟩=some (.int .i64 (j3:Int))) (exact HC2.out ‹_›)
     ((first
       | (go_at_call 68;(with_reducible refine(TK.out set hs T0.out.2.2.2.2 V2).mono ?_);rintro e w3⟨is,rfl,V3⟩;skip)
       | (go_at_call 107;(with_reducible refine(SN.out V3 (List.Mem.tail _ M0.out.1) (List.Mem.tail _ M0.out.2.1) (List.Mem.tail _ M0.out.2.2.1) (List.Mem.tail _ M0.out.2.2.2)).mono ?_);rintro e w4⟨ig,rfl,V4⟩;skip)
       | (go_at_call 106;(with_reducible refine(OR.out _ _ V4 (List.Mem.tail _ (List.Mem.head _)) (List.Mem.head _)).mono ?_);rintro e w5⟨io,rfl,V5⟩;skip)))
    all_goals
     go_wp2_with fail
     go_meet
     exact⟨io,_,rfl,V5,(List.Mem.head _)⟩
   case rest =>
    clear V2 TK SN OR;obtain⟨f,fs,rfl,V3,m3⟩:=hcut;obtain⟨er,c0,c1,E1,E2⟩:=ERR.out f (DRW V3) m3;have c1':wc.cell? ⟨q,1,none⟩=some (.int .i64 er):=c1;clear ERR V3 m3 HC2 DRW M0;by_cases he:er=0
    ·subst he;have C1:Hid (Cl 108 #[.pointer R,.pointer (some ⟨a,0,none⟩),(f:Int)] wc.drew λe w'=>∃v e2:Int,e=.returned (.tuple #[v,e2]) /\ w'.cell? ⟨q,0,none⟩=some (.pointer (some ⟨a,0,none⟩)) /\ dZ w bR R MR a7 nsR gW (4*gT+gT+gS+gO) (λx=>ev nsR set x||ψ x) (.returned (.tuple #[v,e2])) w'):=E2.out rfl;clear E1 E2;go_wp2_with fail;go_region_held3 (λw'=>w'.cell? ⟨q,0,none⟩=some (.pointer (some ⟨a,0,none⟩))) (go_keep) ((go_at_call 108;(with_reducible refine C1.out.mono ?_);rintro e w6⟨v,e2,rfl,cq,FF⟩))
     all_goals
      go_wp2_with fail;go_ret2;exact FX.out _ _ FF
    ·have hz1:(er == 0)=false:=by simpa using he
     have FF:Hid (dZ w bR R MR a7 nsR gW (4*gT+gT+gS+gO) (λx=>ev nsR set x||ψ x) (.returned (.tuple #[.int .i64 0,er])) wc.drew):=E1.out he;have HNZ:Hid (¬er=0):=he;clear E1 E2 he;go_wp2_with fail;all_goals first|exact absurd ‹_› HNZ.out|skip
     go_region;all_goals
      go_wp2_with fail;go_ret2;exact FX.out _ _ FF.out
end
def SetsV(c:Array Value)(s:Nat->Nat->Nat):Prop:=c.size=40 /\ ∀i j,i<10->j<4->c[i*4+j]?=some (.int .i64 (s i j:Int))
theorem mD(c:Array Value)(s:Nat->Nat->Nat)(i j:Nat)(w:World)(hc:SetsV c s)(hi:i<10)(hj:j<4) :
  CB 32 #[.agg c,.agg #[(i:Int),(j:Int)]] w (.int .i64 (s i j:Int)):=by
 have D0:Below w w ((w.alloc (.cells c 89)).alloc (.cells #[(i:Int),(j:Int)] 27)):=((Below.refl _ w).alloc (Nat.le_refl _) _).alloc (by simp) _;have Z1:Bz ((w.alloc (.cells c 89)).alloc (.cells #[(i:Int),(j:Int)] 27)) w.heap.size c 89:=(Bz.new w _ _ _ rfl).al _;have c1:=Z1.cell (i*4+j) _ (hc.2 i j hi hj);have c1d:((w.alloc (.cells c 89)).alloc (.cells #[(i:Int),(j:Int)] 27)).drew.cell? ⟨w,i*4+j,none⟩=some (.int .i64 (s i j:Int)):=c1;have i0:(0:Int)<=(i:Int):=by omega
 have i1:(i:Int)<10:=by omega
 have j0:(0:Int)<=(j:Int):=by omega
 have j1:(j:Int)<4:=by omega
 have t0:decide ((i:Int)<0)=false:=by simp
 have t1:decide ((10:Int)<=(i:Int))=false:=by simp;omega
 have t2:decide ((j:Int)<0)=false:=by simp
 have t3:decide ((4:Int)<=(j:Int))=false:=by simp;omega
 clear Z1 hc;have D1:=D0.drew;go_enter func32,ntmps32;go_wp2_with fail;all_goals first|(exfalso;omega)|skip
 go_region;all_goals
  go_wp2_with fail;go_ret;exact⟨rfl,by first|exact D0|exact D1⟩
section
variable {a9 q a M:Nat}{w0 w:World}{ns:List Nd}{er:Int}
theorem tA(h:Bn a9 q a M w0 w ns er){nm:ByteArray}{kd ad pl:Int}{Ab A At:Option Addr}{nb cb n cap nt ct:Nat}{f0 f1 f2 f3:Nat}{pn gA1 g1 g2 gF g3 g4 gA2:Nat}{φ0 φ1 φa φb φc φd:Env->Bool}(h0:0<=ad)(h16:ad<16)(hp:pl=(pn:Int))(hpn:pn<256)(A1:bH a9 q a M w0 φ1 (phi 65535 (setL [ad] 0) 255 pn) gA1)(N1:AnB 168 a9 q a M w0 φ0 φa g1)(N2:AnB 167 a9 q a M w0 φa φb g2)(FB:FlB a9 q a M w0 φb gF)(N3:AnB 168 a9 q a M w0 (λx=>φ1 x&&(phi 65535 (setL [ad] 0) 255 pn) x) φc g3)(N4:AnB 167 a9 q a M w0 φc φd g4)(A2:bH a9 q a M w0 φd (flF φb) gA2)(hf0:Fn ns er f0 φ0)(hf1:Fn ns er f1 φ1) :
  Cl 136 #[.pointer q,.agg #[.string nm,kd,ad,.int .u8 pl,.slice Ab nb cb,.slice A n cap,.slice At nt ct],.agg #[(f0:Int),(f1:Int),(f2:Int),(f3:Int)]] w (BOut a9 q a M w0 w ns er (0+44+gA1+g1+g2+gF+g3+g4+gA2) (λx=>φd x&&flF φb x)):=by
 subst hp;have h1:=((h.alloc (.cells #[.string nm,kd,ad,.int .u8 (pn:Int),.slice Ab nb cb,.slice A n cap,.slice At nt ct] 70)).alloc (.cells #[(f0:Int),(f1:Int),(f2:Int),(f3:Int)] 87));have Z1:Bz ((w.alloc (.cells #[.string nm,kd,ad,.int .u8 (pn:Int),.slice Ab nb cb,.slice A n cap,.slice At nt ct] 70)).alloc (.cells #[(f0:Int),(f1:Int),(f2:Int),(f3:Int)] 87)) w.heap.size #[.string nm,kd,ad,.int .u8 (pn:Int),.slice Ab nb cb,.slice A n cap,.slice At nt ct] 70:=(Bz.new w _ _ _ rfl).al _;have Z2:Bz ((w.alloc (.cells #[.string nm,kd,ad,.int .u8 (pn:Int),.slice Ab nb cb,.slice A n cap,.slice At nt ct] 70)).alloc (.cells #[(f0:Int),(f1:Int),(f2:Int),(f3:Int)] 87)) (w.heap.size+1) #[(f0:Int),(f1:Int),(f2:Int),(f3:Int)] 87:=Bz.new (w.alloc _) _ _ _ (by show _=(w.heap.push _).size;rw[Array.size_push]);have hz:=gw h0 h16;have HS:Hid (Cl 166 #[.slice (some ⟨w.heap.size+1+1,0,none⟩) 1 1] (((w.alloc (.cells #[.string nm,kd,ad,.int .u8 (pn:Int),.slice Ab nb cb,.slice A n cap,.slice At nt ct] 70)).alloc (.cells #[(f0:Int),(f1:Int),(f2:Int),(f3:Int)] 87)).alloc (.cells #[ad] 3)) λe w'=>e=.returned (.agg #[.int .u16 65535,.int .u16 (setL [ad] 0:Nat),.int .u8 255,.int .u8 255]) /\ Below (((w.alloc (.cells #[.string nm,kd,ad,.int .u8 (pn:Int),.slice Ab nb cb,.slice A n cap,.slice At nt ct] 70)).alloc (.cells #[(f0:Int),(f1:Int),(f2:Int),(f3:Int)] 87)).alloc (.cells #[ad] 3)).heap.size (((w.alloc (.cells #[.string nm,kd,ad,.int .u8 (pn:Int),.slice Ab nb cb,.slice A n cap,.slice At nt ct] 70)).alloc (.cells #[(f0:Int),(f1:Int),(f2:Int),(f3:Int)] 87)).alloc (.cells #[ad] 3)) w'):=jN _ [ad] _ (gv (Bz.new _ _ _ _ (by show _=((w.heap.push _).push _).size;rw[Array.size_push,Array.size_push]))) (λy hy=>by simp at hy;omega);generalize setL [ad] 0=z at *;have Q0:Qs a9 q a M w0 ((w.alloc (.cells #[.string nm,kd,ad,.int .u8 (pn:Int),.slice Ab nb cb,.slice A n cap,.slice At nt ct] 70)).alloc (.cells #[(f0:Int),(f1:Int),(f2:Int),(f3:Int)] 87)) ns er 0 [(f0,φ0),(f1,φ1)] [(w.heap.size+1,#[(f0:Int),(f1:Int),(f2:Int),(f3:Int)],87),(w.heap.size,#[.string nm,kd,ad,.int .u8 (pn:Int),.slice Ab nb cb,.slice A n cap,.slice At nt ct],70)] ((w.alloc (.cells #[.string nm,kd,ad,.int .u8 (pn:Int),.slice Ab nb cb,.slice A n cap,.slice At nt ct] 70)).alloc (.cells #[(f0:Int),(f1:Int),(f2:Int),(f3:Int)] 87)):=((Qs.start h1 (fs:=[(f0,φ0),(f1,φ1)]) (λx hx=>by
  rcases List.mem_cons.1 hx with rfl|hx
  ·exact hf0
  ·rw[List.mem_singleton.1 hx];exact hf1)).boxed Z1 (by decide)).boxed Z2 (by decide)
 have d2:=Z1.cell 2 (.int .i64 ad) rfl;have tfw:TF w ((w.alloc (.cells #[.string nm,kd,ad,.int .u8 (pn:Int),.slice Ab nb cb,.slice A n cap,.slice At nt ct] 70)).alloc (.cells #[(f0:Int),(f1:Int),(f2:Int),(f3:Int)] 87)):=cH w _ _;have QW:Hid (∀w2,Below (((w.alloc (.cells #[.string nm,kd,ad,.int .u8 (pn:Int),.slice Ab nb cb,.slice A n cap,.slice At nt ct] 70)).alloc (.cells #[(f0:Int),(f1:Int),(f2:Int),(f3:Int)] 87)).alloc (.cells #[ad] 3)).heap.size (((w.alloc (.cells #[.string nm,kd,ad,.int .u8 (pn:Int),.slice Ab nb cb,.slice A n cap,.slice At nt ct] 70)).alloc (.cells #[(f0:Int),(f1:Int),(f2:Int),(f3:Int)] 87)).alloc (.cells #[ad] 3)) w2->w.heap.size+1<w2.heap.size /\ w2.cell? ⟨w,3,none⟩=some (.int .u8 (pn:Int)) /\ Qs a9 q a M w0 ((w.alloc (.cells #[.string nm,kd,ad,.int .u8 (pn:Int),.slice Ab nb cb,.slice A n cap,.slice At nt ct] 70)).alloc (.cells #[(f0:Int),(f1:Int),(f2:Int),(f3:Int)] 87)) ns er 0 [(f0,φ0),(f1,φ1)] [(w2.heap.size,#[.int .u16 65535,.int .u16 (z:Int),.int .u8 255,.int .u8 (pn:Int)],30),(w.heap.size+1,#[(f0:Int),(f1:Int),(f2:Int),(f3:Int)],87),(w.heap.size,#[.string nm,kd,ad,.int .u8 (pn:Int),.slice Ab nb cb,.slice A n cap,.slice At nt ct],70)] (w2.alloc (.cells #[.int .u16 65535,.int .u16 (z:Int),.int .u8 255,.int .u8 (pn:Int)] 30))):=λw2 hb=>by
  have Q1:=(Q0.grow ((Below.refl _ _).alloc (Nat.le_refl _) (.cells #[ad] 3))).grow hb;refine⟨(Q1.bz _ List.mem_cons_self).1.lt,(Q1.bz _ (List.mem_cons_of_mem _ List.mem_cons_self)).1.cell 3 _ rfl,Q1.box rfl (by decide)⟩
 clear Q0 h1 Z1 Z2 h hf0 hf1;go_enter func136,ntmps136;go_wp2_with fail;with_reducible refine HS.out.mono ?_
 rintro e w2⟨rfl,hb2⟩;obtain⟨lt2,y3,Q2⟩:=QW.out w2 hb2;obtain⟨V,hV⟩:∃V:Nat->List (Nat × (Env->Bool))->World->Prop,V=λg fs W=>Qs a9 q a M w0 ((w.alloc (.cells #[.string nm,kd,ad,.int .u8 (pn:Int),.slice Ab nb cb,.slice A n cap,.slice At nt ct] 70)).alloc (.cells #[(f0:Int),(f1:Int),(f2:Int),(f3:Int)] 87)) ns er g fs [(w2.heap.size,#[.int .u16 65535,.int .u16 (z:Int),.int .u8 255,.int .u8 (pn:Int)],30),(w.heap.size+1,#[(f0:Int),(f1:Int),(f2:Int),(f3:Int)],87),(w.heap.size,#[.string nm,kd,ad,.int .u8 (pn:Int),.slice Ab nb cb,.slice A n cap,.slice At nt ct],70)] W:=⟨_,rfl⟩;have V2:V 0 [(f0,φ0),(f1,φ1)] (w2.alloc (.cells #[.int .u16 65535,.int .u16 (z:Int),.int .u8 255,.int .u8 (pn:Int)] 30)):=by rw[hV];exact Q2
 have V3:V 0 [(f0,φ0),(f1,φ1)] (w2.alloc (.cells #[.int .u16 65535,.int .u16 (z:Int),.int .u8 255,.int .u8 (pn:Int)] 30)).drew:=by rw[hV];exact Q2.drew
 have lt1:w.heap.size<w2.heap.size:=by omega
 have ne1:¬w.heap.size=w2.heap.size:=by omega
 have ne2:¬w.heap.size+1=w2.heap.size:=by omega
 have t3:=(Below.cell ((Below.refl _ w2).alloc (Nat.le_refl _) (.cells #[.int .u16 65535,.int .u16 (z:Int),.int .u8 255,.int .u8 255] 30)) (p:=⟨w,3,none⟩) lt1).trans y3;have HC:Hid (∀{g:Nat} {fs:List (Nat × (Env->Bool))} {W:World},V g fs W->W.cell? ⟨w.heap.size+1,0,none⟩=some (.int .i64 (f0:Int)) /\ W.cell? ⟨w.heap.size+1,1,none⟩=some (.int .i64 (f1:Int)) /\ W.cell? ⟨w2,0,none⟩=some (.int .u16 65535) /\ W.cell? ⟨w2,1,none⟩=some (.int .u16 (z:Int)) /\ W.cell? ⟨w2,2,none⟩=some (.int .u8 255) /\ W.cell? ⟨w2,3,none⟩=some (.int .u8 (pn:Int))):=λ{g fs W} hq=>by
  rw[hV]at hq;have k1:=(hq.bz _ List.mem_cons_self).1;have k2:=(hq.bz _ (List.mem_cons_of_mem _ List.mem_cons_self)).1;exact⟨k2.cell 0 _ rfl,k2.cell 1 _ rfl,k1.cell 0 _ rfl,k1.cell 1 _ rfl,k1.cell 2 _ rfl,k1.cell 3 _ rfl⟩
 have CM:Hid (∀{g:Nat} {fs:List (Nat × (Env->Bool))} {W:World},V g fs W->Cl 69 #[.pointer q,.agg #[.int .u16 65535,.int .u16 (z:Int),.int .u8 255,.int .u8 (pn:Int)]] W λe w'=>∃f:Nat,e=.returned (f:Int) /\ V (g+44) ((f,phi 65535 z 255 pn)::fs) w'):=λ{g fs W} hq=>by
  rw[hV]at hq ⊢;exact hq.call λ_ _ b _=>eO b 65535 z 255 pn (by omega) hz (by omega) hpn
 have CA:Hid (∀{g:Nat} {fs:List (Nat × (Env->Bool))} {W:World} (i j:Nat),V g fs W->(i,φ1)∈fs->(j,(phi 65535 z 255 pn))∈fs->Cl 67 #[.pointer q,(i:Int),(j:Int)] W λe w'=>∃f:Nat,e=.returned (f:Int) /\ V (g+gA1) ((f,λx=>φ1 x&&(phi 65535 z 255 pn) x)::fs) w'):=λ{g fs W} i j hq m1 m2=>by
  rw[hV]at hq ⊢;exact hq.call λ_ _ b hf=>A1 _ _ _ _ _ b (hf _ m1) (hf _ m2)
 have C1:Hid (∀{g:Nat} {fs:List (Nat × (Env->Bool))} {W:World} (i:Nat),V g fs W->(i,φ0)∈fs->Cl 168 #[.pointer q,(i:Int)] W λe w'=>∃f:Nat,e=.returned (f:Int) /\ V (g+g1) ((f,φa)::fs) w'):=λ{g fs W} i hq m1=>by
  rw[hV]at hq ⊢;exact hq.call λ_ _ b hf=>N1 _ _ _ _ b (hf _ m1)
 have C2:Hid (∀{g:Nat} {fs:List (Nat × (Env->Bool))} {W:World} (i:Nat),V g fs W->(i,φa)∈fs->Cl 167 #[.pointer q,(i:Int)] W λe w'=>∃f:Nat,e=.returned (f:Int) /\ V (g+g2) ((f,φb)::fs) w'):=λ{g fs W} i hq m1=>by
  rw[hV]at hq ⊢;exact hq.call λ_ _ b hf=>N2 _ _ _ _ b (hf _ m1)
 have CF:Hid (∀{g:Nat} {fs:List (Nat × (Env->Bool))} {W:World} (i:Nat),V g fs W->(i,φb)∈fs->Cl 163 #[.pointer q,(i:Int)] W λe w'=>∃f:Nat,e=.returned (f:Int) /\ V (g+gF) ((f,flF φb)::fs) w'):=λ{g fs W} i hq m1=>by
  rw[hV]at hq ⊢;exact hq.call λ_ _ b hf=>FB _ _ _ _ b (hf _ m1)
 have C3:Hid (∀{g:Nat} {fs:List (Nat × (Env->Bool))} {W:World} (i:Nat),V g fs W->(i,(λx=>φ1 x&&(phi 65535 z 255 pn) x))∈fs->Cl 168 #[.pointer q,(i:Int)] W λe w'=>∃f:Nat,e=.returned (f:Int) /\ V (g+g3) ((f,φc)::fs) w'):=λ{g fs W} i hq m1=>by
  rw[hV]at hq ⊢;exact hq.call λ_ _ b hf=>N3 _ _ _ _ b (hf _ m1)
 have C4:Hid (∀{g:Nat} {fs:List (Nat × (Env->Bool))} {W:World} (i:Nat),V g fs W->(i,φc)∈fs->Cl 167 #[.pointer q,(i:Int)] W λe w'=>∃f:Nat,e=.returned (f:Int) /\ V (g+g4) ((f,φd)::fs) w'):=λ{g fs W} i hq m1=>by
  rw[hV]at hq ⊢;exact hq.call λ_ _ b hf=>N4 _ _ _ _ b (hf _ m1)
 have CB:Hid (∀{g:Nat} {fs:List (Nat × (Env->Bool))} {W:World} (i j:Nat),V g fs W->(i,φd)∈fs->(j,(flF φb))∈fs->Cl 67 #[.pointer q,(i:Int),(j:Int)] W λe w'=>∃f:Nat,e=.returned (f:Int) /\ V (g+gA2) ((f,λx=>φd x&&(flF φb) x)::fs) w'):=λ{g fs W} i j hq m1 m2=>by
  rw[hV]at hq ⊢;exact hq.call λ_ _ b hf=>A2 _ _ _ _ _ b (hf _ m1) (hf _ m2)
 have FIN:Hid (∀{fs:List (Nat × (Env->Bool))} {W:World} (f:Nat),V (0+44+gA1+g1+g2+gF+g3+g4+gA2) fs W->(f,λx=>φd x&&flF φb x)∈fs->BOut a9 q a M w0 w ns er (0+44+gA1+g1+g2+gF+g3+g4+gA2) (λx=>φd x&&flF φb x) (.returned (f:Int)) W):=λ{fs W} f hq m=>by
  rw[hV]at hq;exact hq.fn m tfw
 clear hV Q2 QW HS hb2 A1 N1 N2 FB N3 N4 A2 hz tfw;go_wp2_with fail;go_cut [8] (λv wx=>∃fm fc:Nat,v=.int .i64 (fc:Int) /\ V (0+44+gA1) [(fc,λx=>φ1 x&&(phi 65535 z 255 pn) x),(fm,(phi 65535 z 255 pn)),(f0,φ0),(f1,φ1)] wx)
 case first =>
  go_region_held3 (λW=>W.cell? ⟨w.heap.size+1,0,none⟩=some (.int .i64 (f0:Int)) /\ W.cell? ⟨w.heap.size+1,1,none⟩=some (.int .i64 (f1:Int)) /\ W.cell? ⟨w2,0,none⟩=some (.int .u16 65535) /\ W.cell? ⟨w2,1,none⟩=some (.int .u16 (z:Int)) /\ W.cell? ⟨w2,2,none⟩=some (.int .u8 255) /\ W.cell? ⟨w2,3,none⟩=some (.int .u8 (pn:Int))) (exact HC.out ‹_›)
   ((first
     | (go_at_call 69;(with_reducible refine(CM.out V3).mono ?_);rintro e w4⟨fm,rfl,V4⟩;skip)
     | (go_at_call 67;(with_reducible refine(CA.out _ _ V4 (List.Mem.tail _ (List.Mem.tail _ (List.Mem.head _))) (List.Mem.head _)).mono ?_);rintro e w5⟨fc,rfl,V5⟩;skip)))
  all_goals
   go_wp2_with fail
   go_meet
   exact⟨fm,fc,rfl,V5⟩
 case rest =>
  clear V2 V3;obtain⟨fm,fc,rfl,V5⟩:=hcut;obtain⟨c0,c1,c2,c3,c4,c5⟩:=HC.out V5;go_wp2_with fail;with_reducible refine(C1.out _ V5 (List.Mem.tail _ (List.Mem.tail _ (List.Mem.head _)))).mono ?_
  rintro e w6⟨fa,rfl,V6⟩;go_wp2_with fail;with_reducible refine(C2.out _ V6 (List.Mem.head _)).mono ?_
  rintro e w7⟨fb,rfl,V7⟩;go_wp2_with fail;with_reducible refine(CF.out _ V7 (List.Mem.head _)).mono ?_
  rintro e w8⟨fl,rfl,V8⟩;clear c0 c1 c2 c3 c4 c5;go_wp2_with fail;with_reducible refine(C3.out _ V8 (List.Mem.tail _ (List.Mem.tail _ (List.Mem.tail _ (List.Mem.head _))))).mono ?_
  rintro e w9⟨fx,rfl,V9⟩;go_wp2_with fail;with_reducible refine(C4.out _ V9 (List.Mem.head _)).mono ?_
  rintro e wa⟨fy,rfl,VA⟩;go_wp2_with fail;with_reducible refine(CB.out _ _ VA (List.Mem.head _) (List.Mem.tail _ (List.Mem.tail _ (List.Mem.head _)))).mono ?_
  rintro e wb⟨fz,rfl,VB⟩;have FF:=FIN.out _ VB (List.Mem.head _);clear HC CM CA C1 C2 CF C3 C4 CB FIN VB VA V9 V8 V7 V6 V5;go_wp2_with fail;go_ret;exact FF
end
section
variable {a9 q a M:Nat}{w0 w:World}{ns:List Nd}{er:Int}
theorem tB(h:Bn a9 q a M w0 w ns er){nm:ByteArray}{kd ad pl:Int}{Ab A At:Option Addr}{nb cb n cap nt ct:Nat}{f0 f1 f2 f3:Nat}{bs:List Int}{gO gA1 g1 gA2 gO1 zc:Nat}{φ0 φa:Env->Bool}(h0:0<=ad)(h16:ad<16)(hzc:zc<65536 /\ Go.bits .andNot .u16 65535 ((setL [ad] 0:Nat):Int)=(zc:Int))(hB:SlAt a9 w0 1 IsI (.slice Ab nb cb) bs)(hbs:∀x∈bs,0<=x /\ x<16)(AO:bH a9 q a M w0 φ0 (phi 65535 (setL [ad] 0) 255 255) gO)(N1:AnB 167 a9 q a M w0 (λx=>φ0 x&&(phi 65535 (setL [ad] 0) 255 255) x) φa g1)(A1:bH a9 q a M w0 φa (phi 65535 (setL bs 0) 255 255) gA1)(A2:bH a9 q a M w0 φ0 (phi 65535 zc 255 255) gA2)(O1:OrB a9 q a M w0 (λx=>φ0 x&&phi 65535 zc 255 255 x) (λx=>φa x&&(phi 65535 (setL bs 0) 255 255) x) gO1)(hf0:Fn ns er f0 φ0) :
  Cl 137 #[.pointer q,.agg #[.string nm,kd,ad,.int .u8 pl,.slice Ab nb cb,.slice A n cap,.slice At nt ct],.agg #[(f0:Int),(f1:Int),(f2:Int),(f3:Int)]] w (BOut a9 q a M w0 w ns er (0+(0+44+gO)+g1+44+gA1+44+gA2+gO1) (λx=>(λx=>φ0 x&&phi 65535 zc 255 255 x) x||(λx=>φa x&&(phi 65535 (setL bs 0) 255 255) x) x)):=by
 have h1:=((h.alloc (.cells #[.string nm,kd,ad,.int .u8 pl,.slice Ab nb cb,.slice A n cap,.slice At nt ct] 70)).alloc (.cells #[(f0:Int),(f1:Int),(f2:Int),(f3:Int)] 87));have Z1:Bz ((w.alloc (.cells #[.string nm,kd,ad,.int .u8 pl,.slice Ab nb cb,.slice A n cap,.slice At nt ct] 70)).alloc (.cells #[(f0:Int),(f1:Int),(f2:Int),(f3:Int)] 87)) w.heap.size #[.string nm,kd,ad,.int .u8 pl,.slice Ab nb cb,.slice A n cap,.slice At nt ct] 70:=(Bz.new w _ _ _ rfl).al _;have Z2:Bz ((w.alloc (.cells #[.string nm,kd,ad,.int .u8 pl,.slice Ab nb cb,.slice A n cap,.slice At nt ct] 70)).alloc (.cells #[(f0:Int),(f1:Int),(f2:Int),(f3:Int)] 87)) (w.heap.size+1) #[(f0:Int),(f1:Int),(f2:Int),(f3:Int)] 87:=Bz.new (w.alloc _) _ _ _ (by show _=(w.heap.push _).size;rw[Array.size_push]);have hz:=gw h0 h16;have hzb:setL bs 0<65536:=jL _ _ hbs (by omega);obtain⟨hzc1,hzc2⟩:=hzc;have AL:Hid (∀W,CB 52 #[] W (.agg #[.int .u16 65535,.int .u16 65535,.int .u8 255,.int .u8 255])):=λW=>all_any W;have DI:Hid (∀(k:Nat) W,Bz W k #[ad] 3->CB 166 #[.slice k 1 1] W (.agg #[.int .u16 65535,.int .u16 (setL [ad] 0:Nat),.int .u8 255,.int .u8 255])):=λk W hk=>jN _ [ad] W (gv hk) (λy hy=>by simp at hy;omega);have DB:Hid (∀W,a9<=W.heap.size->Below a9 w0 W->CB 166 #[.slice Ab nb cb] W (.agg #[.int .u16 65535,.int .u16 (setL bs 0:Nat),.int .u8 255,.int .u8 255])):=λW hs hb=>jN _ bs W (SlAt.mono (SlAt.below hB hb (λ_ _ _ h=>h)) hs (λ_ _ _ h=>h)) hbs;have OW:Hid (∀ns1 er1 W,Bn a9 q a M w0 W ns1 er1->Fn ns1 er1 f0 φ0->Cl 169 #[.pointer q,.agg #[.string nm,kd,ad,.int .u8 pl,.slice Ab nb cb,.slice A n cap,.slice At nt ct],.agg #[(f0:Int),(f1:Int),(f2:Int),(f3:Int)]] W (BOut a9 q a M w0 W ns1 er1 (0+44+gO) (λx=>φ0 x&&(phi 65535 (setL [ad] 0) 255 255) x))):=λns1 er1 W b hf=>qE b h0 h16 AO hf;generalize setL [ad] 0=z at *;generalize setL bs 0=zb at *;have Q0:Qs a9 q a M w0 ((w.alloc (.cells #[.string nm,kd,ad,.int .u8 pl,.slice Ab nb cb,.slice A n cap,.slice At nt ct] 70)).alloc (.cells #[(f0:Int),(f1:Int),(f2:Int),(f3:Int)] 87)) ns er 0 [(f0,φ0)] [(w.heap.size+1,#[(f0:Int),(f1:Int),(f2:Int),(f3:Int)],87),(w.heap.size,#[.string nm,kd,ad,.int .u8 pl,.slice Ab nb cb,.slice A n cap,.slice At nt ct],70)] ((w.alloc (.cells #[.string nm,kd,ad,.int .u8 pl,.slice Ab nb cb,.slice A n cap,.slice At nt ct] 70)).alloc (.cells #[(f0:Int),(f1:Int),(f2:Int),(f3:Int)] 87)):=((Qs.start h1 (fs:=[(f0,φ0)]) (λx hx=>by
  rw[List.mem_singleton.1 hx];exact hf0)).boxed Z1 (by decide)).boxed Z2 (by decide)
 have tfw:TF w ((w.alloc (.cells #[.string nm,kd,ad,.int .u8 pl,.slice Ab nb cb,.slice A n cap,.slice At nt ct] 70)).alloc (.cells #[(f0:Int),(f1:Int),(f2:Int),(f3:Int)] 87)):=cH w _ _;have QW:Hid (∀w2,Below ((w.alloc (.cells #[.string nm,kd,ad,.int .u8 pl,.slice Ab nb cb,.slice A n cap,.slice At nt ct] 70)).alloc (.cells #[(f0:Int),(f1:Int),(f2:Int),(f3:Int)] 87)).heap.size ((w.alloc (.cells #[.string nm,kd,ad,.int .u8 pl,.slice Ab nb cb,.slice A n cap,.slice At nt ct] 70)).alloc (.cells #[(f0:Int),(f1:Int),(f2:Int),(f3:Int)] 87)) w2->w.heap.size+1<w2.heap.size /\ ((w.alloc (.cells #[.string nm,kd,ad,.int .u8 pl,.slice Ab nb cb,.slice A n cap,.slice At nt ct] 70)).alloc (.cells #[(f0:Int),(f1:Int),(f2:Int),(f3:Int)] 87)).heap.size<=w2.heap.size /\ Qs a9 q a M w0 ((w.alloc (.cells #[.string nm,kd,ad,.int .u8 pl,.slice Ab nb cb,.slice A n cap,.slice At nt ct] 70)).alloc (.cells #[(f0:Int),(f1:Int),(f2:Int),(f3:Int)] 87)) ns er 0 [(f0,φ0)] ((w2.heap.size,#[.int .u16 65535,.int .u16 65535,.int .u8 255,.int .u8 255],30)::[(w.heap.size+1,#[(f0:Int),(f1:Int),(f2:Int),(f3:Int)],87),(w.heap.size,#[.string nm,kd,ad,.int .u8 pl,.slice Ab nb cb,.slice A n cap,.slice At nt ct],70)]) (w2.alloc (.cells #[.int .u16 65535,.int .u16 65535,.int .u8 255,.int .u8 255] 30))):=λw2 hb=>by
  have Q1:=Q0.grow hb;refine⟨(Q1.bz _ List.mem_cons_self).1.lt,hb.size,Q1.box rfl (by decide)⟩
 clear Q0 h1 Z1 Z2 h hf0 AO hB;go_enter func137,ntmps137;go_wp2_with fail;with_reducible refine(AL.out _).mono ?_
 rintro e w2⟨rfl,hb2⟩;obtain⟨lt2,ltT,Q2⟩:=QW.out w2 hb2;have lt1:w.heap.size<w2.heap.size:=by omega
 have ne1:¬w.heap.size=w2.heap.size:=by omega
 have ne2:¬w.heap.size+1=w2.heap.size:=by omega
 go_wp2_with fail;go_cut [7] (λv wx=>v=.pointer (some ⟨w2,0,none⟩) /\ Qs a9 q a M w0 ((w.alloc (.cells #[.string nm,kd,ad,.int .u8 pl,.slice Ab nb cb,.slice A n cap,.slice At nt ct] 70)).alloc (.cells #[(f0:Int),(f1:Int),(f2:Int),(f3:Int)] 87)) ns er 0 [(f0,φ0)] ((w2.heap.size,#[.int .u16 65535,.int .u16 (zc:Int),.int .u8 255,.int .u8 255],30)::[(w.heap.size+1,#[(f0:Int),(f1:Int),(f2:Int),(f3:Int)],87),(w.heap.size,#[.string nm,kd,ad,.int .u8 pl,.slice Ab nb cb,.slice A n cap,.slice At nt ct],70)]) wx)
 case first =>
  have Q3:=Q2.drew;have k1:=(Q3.bz _ List.mem_cons_self).1;have k3:=(Q3.bz _ (List.mem_cons_of_mem _ (List.mem_cons_of_mem _ List.mem_cons_self))).1;have a1:=k1.cell 1 (.int .u16 65535) rfl;have a2:=k3.cell 2 (.int .i64 ad) rfl;have Q4:=Q3.grow ((Below.refl _ _).alloc (Nat.le_refl _) (.cells #[ad] 3));have BI:Bz ((w2.alloc (.cells #[.int .u16 65535,.int .u16 65535,.int .u8 255,.int .u8 255] 30)).drew.alloc (.cells #[ad] 3)) (w2.heap.size+1) #[ad] 3:=Bz.new _ _ _ _ (by show _=(w2.heap.push _).size;rw[Array.size_push]);have BI':Bz ((w2.alloc (.cells #[.int .u16 65535,.int .u16 65535,.int .u8 255,.int .u8 255] 30)).alloc (.cells #[ad] 3)).drew (w2.heap.size+1) #[ad] 3:=BI;have SETQ:Hid (∀wx,Below ((w2.alloc (.cells #[.int .u16 65535,.int .u16 65535,.int .u8 255,.int .u8 255] 30)).drew.alloc (.cells #[ad] 3)).heap.size ((w2.alloc (.cells #[.int .u16 65535,.int .u16 65535,.int .u8 255,.int .u8 255] 30)).drew.alloc (.cells #[ad] 3)) wx->wx.cell? ⟨w2,1,none⟩=some (.int .u16 65535) /\ wx.frozen? ⟨w2,1,none⟩=false /\ wx.cell? ⟨w,2,none⟩=some (.int .i64 ad) /\ Qs a9 q a M w0 ((w.alloc (.cells #[.string nm,kd,ad,.int .u8 pl,.slice Ab nb cb,.slice A n cap,.slice At nt ct] 70)).alloc (.cells #[(f0:Int),(f1:Int),(f2:Int),(f3:Int)] 87)) ns er 0 [(f0,φ0)] ((w2.heap.size,#[.int .u16 65535,.int .u16 (zc:Int),.int .u8 255,.int .u8 255],30)::[(w.heap.size+1,#[(f0:Int),(f1:Int),(f2:Int),(f3:Int)],87),(w.heap.size,#[.string nm,kd,ad,.int .u8 pl,.slice Ab nb cb,.slice A n cap,.slice At nt ct],70)]) (wx.setCell ⟨w2,1,none⟩ (.int .u16 (zc:Int)))):=λwx hb=>by
   have Q5:=Q4.grow hb;have z1:=(Q5.bz _ List.mem_cons_self).1;refine⟨z1.cell 1 _ rfl,z1.free 1,(Q5.bz _ (List.mem_cons_of_mem _ (List.mem_cons_of_mem _ List.mem_cons_self))).1.cell 2 _ rfl,?_⟩;have:=Q5.set (j:=1) ltT (λb hb=>by
    simp only[List.mem_cons,List.not_mem_nil,or_false]at hb;rcases hb with rfl|rfl
    ·exact ne2
    ·exact ne1) (.int .u16 (zc:Int))
   simpa using this
  clear Q2 Q3 Q4 QW k1 k3 A1 A2 O1 N1;have FLD:∀W:World,(Instr.field 30 (.agg #[.int .u16 65535,.int .u16 (z:Int),.int .u8 255,.int .u8 255]) 1).run prog W=.ok (.int .u16 (z:Int)) W:=λW=>by
   first
    | rfl
    | kernel_rfl
    | (simp[go_sem,underlying30])
  go_region_with (first|(go_at_call 166;(with_reducible refine(DI.out _ _ BI).mono ?_);rintro e wx⟨rfl,hbx⟩;obtain⟨x1,x2,x3,x4⟩:=SETQ.out wx hbx)|(go_at_call 166;(with_reducible refine(DI.out _ _ BI').mono ?_);rintro e wx⟨rfl,hbx⟩;obtain⟨x1,x2,x3,x4⟩:=SETQ.out wx hbx))
  all_goals
   go_wp2_with fail
   go_meet
   exact⟨rfl,x4⟩
 case rest =>
  obtain⟨rfl,Q5⟩:=hcut;clear Q2 QW AL DI hb2 hzc2;obtain⟨V,hV⟩:∃V:Nat->List (Nat × (Env->Bool))->World->Prop,V=λg fs W=>Qs a9 q a M w0 ((w.alloc (.cells #[.string nm,kd,ad,.int .u8 pl,.slice Ab nb cb,.slice A n cap,.slice At nt ct] 70)).alloc (.cells #[(f0:Int),(f1:Int),(f2:Int),(f3:Int)] 87)) ns er g fs ((w2.heap.size,#[.int .u16 65535,.int .u16 (zc:Int),.int .u8 255,.int .u8 255],30)::[(w.heap.size+1,#[(f0:Int),(f1:Int),(f2:Int),(f3:Int)],87),(w.heap.size,#[.string nm,kd,ad,.int .u8 pl,.slice Ab nb cb,.slice A n cap,.slice At nt ct],70)]) W:=⟨_,rfl⟩;have V5:V 0 [(f0,φ0)] wc.drew:=by rw[hV];exact Q5.drew
  have HC:Hid (∀{g:Nat} {fs:List (Nat × (Env->Bool))} {W:World},V g fs W->(W.cell? ⟨w,0,none⟩=some (.string nm) /\ W.cell? ⟨w,1,none⟩=some (.int .i64 kd) /\ W.cell? ⟨w,2,none⟩=some (.int .i64 ad) /\ W.cell? ⟨w,3,none⟩=some (.int .u8 pl) /\ W.cell? ⟨w,4,none⟩=some (.slice Ab nb cb) /\ W.cell? ⟨w,5,none⟩=some (.slice A n cap) /\ W.cell? ⟨w,6,none⟩=some (.slice At nt ct)) /\ (W.cell? ⟨w.heap.size+1,0,none⟩=some (.int .i64 (f0:Int)) /\ W.cell? ⟨w.heap.size+1,1,none⟩=some (.int .i64 (f1:Int)) /\ W.cell? ⟨w.heap.size+1,2,none⟩=some (.int .i64 (f2:Int)) /\ W.cell? ⟨w.heap.size+1,3,none⟩=some (.int .i64 (f3:Int))) /\ W.cell? ⟨w2,0,none⟩=some (.int .u16 65535) /\ W.cell? ⟨w2,1,none⟩=some (.int .u16 (zc:Int)) /\ W.cell? ⟨w2,2,none⟩=some (.int .u8 255) /\ W.cell? ⟨w2,3,none⟩=some (.int .u8 255)):=λ{g fs W} hq=>by
   rw[hV]at hq;have k1:=(hq.bz _ List.mem_cons_self).1;have k2:=(hq.bz _ (List.mem_cons_of_mem _ List.mem_cons_self)).1;have k3:=(hq.bz _ (List.mem_cons_of_mem _ (List.mem_cons_of_mem _ List.mem_cons_self))).1;exact⟨⟨k3.cell 0 _ rfl,k3.cell 1 _ rfl,k3.cell 2 _ rfl,k3.cell 3 _ rfl,k3.cell 4 _ rfl,k3.cell 5 _ rfl,k3.cell 6 _ rfl⟩,⟨k2.cell 0 _ rfl,k2.cell 1 _ rfl,k2.cell 2 _ rfl,k2.cell 3 _ rfl⟩,k1.cell 0 _ rfl,k1.cell 1 _ rfl,k1.cell 2 _ rfl,k1.cell 3 _ rfl⟩
  have CO:Hid (∀{g:Nat} {fs:List (Nat × (Env->Bool))} {W:World},V g fs W->(f0,φ0)∈fs->Cl 169 #[.pointer q,.agg #[.string nm,kd,ad,.int .u8 pl,.slice Ab nb cb,.slice A n cap,.slice At nt ct],.agg #[(f0:Int),(f1:Int),(f2:Int),(f3:Int)]] W λe w'=>∃f:Nat,e=.returned (f:Int) /\ V (g+(0+44+gO)) ((f,(λx=>φ0 x&&phi 65535 z 255 255 x))::fs) w'):=λ{g fs W} hq m1=>by
   rw[hV]at hq ⊢;exact hq.call λ_ _ b hf=>OW.out _ _ _ b (hf _ m1)
  have C1:Hid (∀{g:Nat} {fs:List (Nat × (Env->Bool))} {W:World} (i:Nat),V g fs W->(i,(λx=>φ0 x&&phi 65535 z 255 255 x))∈fs->Cl 167 #[.pointer q,(i:Int)] W λe w'=>∃f:Nat,e=.returned (f:Int) /\ V (g+g1) ((f,φa)::fs) w'):=λ{g fs W} i hq m1=>by
   rw[hV]at hq ⊢;exact hq.call λ_ _ b hf=>N1 _ _ _ _ b (hf _ m1)
  have CD:Hid (∀{g:Nat} {fs:List (Nat × (Env->Bool))} {W:World},V g fs W->Cl 166 #[.slice Ab nb cb] W λe w'=>e=.returned (.agg #[.int .u16 65535,.int .u16 (zb:Int),.int .u8 255,.int .u8 255]) /\ V g fs w' /\ Below W W w'):=λ{g fs W} hq=>by
   rw[hV]at hq ⊢;obtain⟨ns1,er1,s1,hf⟩:=hq.st;exact(DB.out W s1.bn.size s1.bn.bel).mono λe w' ⟨h1,h2⟩=>⟨h1,hq.grow h2,h2⟩
  have CM:Hid (∀{g:Nat} {fs:List (Nat × (Env->Bool))} {W:World},V g fs W->Cl 69 #[.pointer q,.agg #[.int .u16 65535,.int .u16 (zb:Int),.int .u8 255,.int .u8 255]] W λe w'=>∃f:Nat,e=.returned (f:Int) /\ V (g+44) ((f,phi 65535 zb 255 255)::fs) w'):=λ{g fs W} hq=>by
   rw[hV]at hq ⊢;exact hq.call λ_ _ b _=>eO b 65535 zb 255 255 (by omega) hzb (by omega) (by omega)
  have CA:Hid (∀{g:Nat} {fs:List (Nat × (Env->Bool))} {W:World} (i j:Nat),V g fs W->(i,φa)∈fs->(j,(phi 65535 zb 255 255))∈fs->Cl 67 #[.pointer q,(i:Int),(j:Int)] W λe w'=>∃f:Nat,e=.returned (f:Int) /\ V (g+gA1) ((f,λx=>φa x&&(phi 65535 zb 255 255) x)::fs) w'):=λ{g fs W} i j hq m1 m2=>by
   rw[hV]at hq ⊢;exact hq.call λ_ _ b hf=>A1 _ _ _ _ _ b (hf _ m1) (hf _ m2)
  have CN:Hid (∀{g:Nat} {fs:List (Nat × (Env->Bool))} {W:World},V g fs W->Cl 69 #[.pointer q,.agg #[.int .u16 65535,.int .u16 (zc:Int),.int .u8 255,.int .u8 255]] W λe w'=>∃f:Nat,e=.returned (f:Int) /\ V (g+44) ((f,phi 65535 zc 255 255)::fs) w'):=λ{g fs W} hq=>by
   rw[hV]at hq ⊢;exact hq.call λ_ _ b _=>eO b 65535 zc 255 255 (by omega) hzc1 (by omega) (by omega)
  have CB:Hid (∀{g:Nat} {fs:List (Nat × (Env->Bool))} {W:World} (i j:Nat),V g fs W->(i,φ0)∈fs->(j,(phi 65535 zc 255 255))∈fs->Cl 67 #[.pointer q,(i:Int),(j:Int)] W λe w'=>∃f:Nat,e=.returned (f:Int) /\ V (g+gA2) ((f,λx=>φ0 x&&(phi 65535 zc 255 255) x)::fs) w'):=λ{g fs W} i j hq m1 m2=>by
   rw[hV]at hq ⊢;exact hq.call λ_ _ b hf=>A2 _ _ _ _ _ b (hf _ m1) (hf _ m2)
  have CR:Hid (∀{g:Nat} {fs:List (Nat × (Env->Bool))} {W:World} (i j:Nat),V g fs W->(i,(λx=>φ0 x&&phi 65535 zc 255 255 x))∈fs->(j,(λx=>φa x&&(phi 65535 zb 255 255) x))∈fs->Cl 106 #[.pointer q,(i:Int),(j:Int)] W λe w'=>∃f:Nat,e=.returned (f:Int) /\ V (g+gO1) ((f,λx=>(λx=>φ0 x&&phi 65535 zc 255 255 x) x||(λx=>φa x&&(phi 65535 zb 255 255) x) x)::fs) w'):=λ{g fs W} i j hq m1 m2=>by
   rw[hV]at hq ⊢;exact hq.call λ_ _ b hf=>O1 _ _ _ _ _ b (hf _ m1) (hf _ m2)
  have FIN:Hid (∀{fs:List (Nat × (Env->Bool))} {W:World} (f:Nat),V (0+(0+44+gO)+g1+44+gA1+44+gA2+gO1) fs W->(f,(λx=>(λx=>φ0 x&&phi 65535 zc 255 255 x) x||(λx=>φa x&&(phi 65535 zb 255 255) x) x))∈fs->BOut a9 q a M w0 w ns er (0+(0+44+gO)+g1+44+gA1+44+gA2+gO1) (λx=>(λx=>φ0 x&&phi 65535 zc 255 255 x) x||(λx=>φa x&&(phi 65535 zb 255 255) x) x) (.returned (f:Int)) W):=λ{fs W} f hq m=>by
   rw[hV]at hq;exact hq.fn m tfw
  have DRW:∀{g:Nat} {fs:List (Nat × (Env->Bool))} {W:World},V g fs W->V g fs W.drew:=λ{g fs W} hq=>by rw[hV]at hq ⊢;exact hq.drew
  clear hV Q5 OW DB A1 A2 O1 N1 hzb tfw;go_wp2_with fail;go_cut [8] (λv wx=>∃fo fa fm fx:Nat,v=.int .i64 (fx:Int) /\ V (0+(0+44+gO)+g1+44+gA1) [(fx,λx=>φa x&&(phi 65535 zb 255 255) x),(fm,(phi 65535 zb 255 255)),(fa,φa),(fo,(λx=>φ0 x&&phi 65535 z 255 255 x)),(f0,φ0)] wx)
  case first =>
   go_region_held3 (λW=>(W.cell? ⟨w,0,none⟩=some (.string nm) /\ W.cell? ⟨w,1,none⟩=some (.int .i64 kd) /\ W.cell? ⟨w,2,none⟩=some (.int .i64 ad) /\ W.cell? ⟨w,3,none⟩=some (.int .u8 pl) /\ W.cell? ⟨w,4,none⟩=some (.slice Ab nb cb) /\ W.cell? ⟨w,5,none⟩=some (.slice A n cap) /\ W.cell? ⟨w,6,none⟩=some (.slice At nt ct)) /\ (W.cell? ⟨w.heap.size+1,0,none⟩=some (.int .i64 (f0:Int)) /\ W.cell? ⟨w.heap.size+1,1,none⟩=some (.int .i64 (f1:Int)) /\ W.cell? ⟨w.heap.size+1,2,none⟩=some (.int .i64 (f2:Int)) /\ W.cell? ⟨w.heap.size+1,3,none⟩=some (.int .i64 (f3:Int))) /\ W.cell? ⟨w2,0,none⟩=some (.int .u16 65535) /\ W.cell? ⟨w2,1,none⟩=some (.int .u16 (zc:Int)) /\ W.cell? ⟨w2,2,none⟩=some (.int .u8 255) /\ W.cell? ⟨w2,3,none⟩=some (.int .u8 255)) (exact HC.out ‹_›)
    ((first
      | (go_at_call 169;(with_reducible refine(CO.out V5 (List.Mem.head _)).mono ?_);rintro e w6⟨fo,rfl,V6⟩;skip)
      | (go_at_call 167;(with_reducible refine(C1.out _ V6 (List.Mem.head _)).mono ?_);rintro e w7⟨fa,rfl,V7⟩;skip)
      | (go_at_call 166;(with_reducible refine(CD.out V7).mono ?_);rintro e w8⟨rfl,V8,_⟩;skip)
      | (go_at_call 69;(with_reducible refine(CM.out V8).mono ?_);rintro e w9⟨fm,rfl,V9⟩;skip)
      | (go_at_call 67;(with_reducible refine(CA.out _ _ V9 (List.Mem.tail _ (List.Mem.head _)) (List.Mem.head _)).mono ?_);rintro e wa⟨fx,rfl,VA⟩;skip)))
   all_goals
    go_wp2_with fail
    go_meet
    exact⟨fo,fa,fm,fx,rfl,VA⟩
  case rest =>
   clear V5 CO C1 CD CM CA;obtain⟨fo,fa,fm,fx,rfl,V5⟩:=hcut;have V6:=DRW V5;clear V5;go_wp2_with fail;go_region_held3 (λW=>(W.cell? ⟨w,0,none⟩=some (.string nm) /\ W.cell? ⟨w,1,none⟩=some (.int .i64 kd) /\ W.cell? ⟨w,2,none⟩=some (.int .i64 ad) /\ W.cell? ⟨w,3,none⟩=some (.int .u8 pl) /\ W.cell? ⟨w,4,none⟩=some (.slice Ab nb cb) /\ W.cell? ⟨w,5,none⟩=some (.slice A n cap) /\ W.cell? ⟨w,6,none⟩=some (.slice At nt ct)) /\ (W.cell? ⟨w.heap.size+1,0,none⟩=some (.int .i64 (f0:Int)) /\ W.cell? ⟨w.heap.size+1,1,none⟩=some (.int .i64 (f1:Int)) /\ W.cell? ⟨w.heap.size+1,2,none⟩=some (.int .i64 (f2:Int)) /\ W.cell? ⟨w.heap.size+1,3,none⟩=some (.int .i64 (f3:Int))) /\ W.cell? ⟨w2,0,none⟩=some (.int .u16 65535) /\ W.cell? ⟨w2,1,none⟩=some (.int .u16 (zc:Int)) /\ W.cell? ⟨w2,2,none⟩=some (.int .u8 255) /\ W.cell? ⟨w2,3,none⟩=some (.int .u8 255)) (exact HC.out ‹_›)
    ((first
      | (go_at_call 69;(with_reducible refine(CN.out V6).mono ?_);rintro e w7⟨fn,rfl,V7⟩;skip)
      | (go_at_call 67;(with_reducible refine(CB.out _ _ V7 (List.Mem.tail _ (List.Mem.tail _ (List.Mem.tail _ (List.Mem.tail _ (List.Mem.tail _ (List.Mem.head _)))))) (List.Mem.head _)).mono ?_);rintro e w8⟨fy,rfl,V8⟩;skip)
      | (go_at_call 106;(with_reducible refine(CR.out _ _ V8 (List.Mem.head _) (List.Mem.tail _ (List.Mem.tail _ (List.Mem.head _)))).mono ?_);rintro e w9⟨fz,rfl,V9⟩;have FF:=FIN.out _ V9 (List.Mem.head _))))
   all_goals
    go_wp2_with fail;go_ret;exact FF
end
section
variable {a9 q a M:Nat}{w0 w:World}{ns:List Nd}{er:Int}
theorem tC(h:Bn a9 q a M w0 w ns er){nm:ByteArray}{kd ad pl:Int}{Ab A At:Option Addr}{nb cb n cap nt ct:Nat}{f0 f1 f2 f3:Nat}{bs:List Int}{gO g1 gF gA1 gA2 g2 gA3 gO1:Nat}{φ0 φ1 φa φc:Env->Bool}(h0:0<=ad)(h16:ad<16)(hB:SlAt a9 w0 1 IsI (.slice Ab nb cb) bs)(hbs:∀x∈bs,0<=x /\ x<16)(AO:bH a9 q a M w0 φ0 (phi 65535 (setL [ad] 0) 255 255) gO)(N1:AnB 167 a9 q a M w0 (λx=>φ0 x&&(phi 65535 (setL [ad] 0) 255 255) x) φa g1)(FB:FlB a9 q a M w0 φa gF)(A1:bH a9 q a M w0 (phi (setL bs 0) 65535 255 255) (flF φa) gA1)(A2:bH a9 q a M w0 φ1 (λx=>(phi (setL bs 0) 65535 255 255) x&&flF φa x) gA2)(N2:AnB 164 a9 q a M w0 (λx=>φ1 x&&(λx=>(phi (setL bs 0) 65535 255 255) x&&flF φa x) x) φc g2)(A3:bH a9 q a M w0 φc (phi (setL [ad] 0) 65535 255 255) gA3)(O1:OrB a9 q a M w0 φ1 (λx=>φc x&&(phi (setL [ad] 0) 65535 255 255) x) gO1)(hf0:Fn ns er f0 φ0)(hf1:Fn ns er f1 φ1) :
  Cl 138 #[.pointer q,.agg #[.string nm,kd,ad,.int .u8 pl,.slice Ab nb cb,.slice A n cap,.slice At nt ct],.agg #[(f0:Int),(f1:Int),(f2:Int),(f3:Int)]] w (BOut a9 q a M w0 w ns er (0+44+(0+44+gO)+g1+gF+gA1+gA2+g2+44+gA3+gO1) (λx=>φ1 x||(λx=>φc x&&(phi (setL [ad] 0) 65535 255 255) x) x)):=by
 have h1:=((h.alloc (.cells #[.string nm,kd,ad,.int .u8 pl,.slice Ab nb cb,.slice A n cap,.slice At nt ct] 70)).alloc (.cells #[(f0:Int),(f1:Int),(f2:Int),(f3:Int)] 87));have Z1:Bz ((w.alloc (.cells #[.string nm,kd,ad,.int .u8 pl,.slice Ab nb cb,.slice A n cap,.slice At nt ct] 70)).alloc (.cells #[(f0:Int),(f1:Int),(f2:Int),(f3:Int)] 87)) w.heap.size #[.string nm,kd,ad,.int .u8 pl,.slice Ab nb cb,.slice A n cap,.slice At nt ct] 70:=(Bz.new w _ _ _ rfl).al _;have Z2:Bz ((w.alloc (.cells #[.string nm,kd,ad,.int .u8 pl,.slice Ab nb cb,.slice A n cap,.slice At nt ct] 70)).alloc (.cells #[(f0:Int),(f1:Int),(f2:Int),(f3:Int)] 87)) (w.heap.size+1) #[(f0:Int),(f1:Int),(f2:Int),(f3:Int)] 87:=Bz.new (w.alloc _) _ _ _ (by show _=(w.heap.push _).size;rw[Array.size_push]);have hz:=gw h0 h16;have hzb:setL bs 0<65536:=jL _ _ hbs (by omega);have SI:Hid (∀(k:Nat) W,Bz W k #[ad] 3->CB 61 #[.slice k 1 1] W (.agg #[.int .u16 (setL [ad] 0:Nat),.int .u16 65535,.int .u8 255,.int .u8 255])):=λk W hk=>jM _ [ad] W (gv hk) (λy hy=>by simp at hy;omega);have SB:Hid (∀W,a9<=W.heap.size->Below a9 w0 W->CB 61 #[.slice Ab nb cb] W (.agg #[.int .u16 (setL bs 0:Nat),.int .u16 65535,.int .u8 255,.int .u8 255])):=λW hs hb=>jM _ bs W (SlAt.mono (SlAt.below hB hb (λ_ _ _ h=>h)) hs (λ_ _ _ h=>h)) hbs;have OW:Hid (∀ns1 er1 W,Bn a9 q a M w0 W ns1 er1->Fn ns1 er1 f0 φ0->Cl 169 #[.pointer q,.agg #[.string nm,kd,ad,.int .u8 pl,.slice Ab nb cb,.slice A n cap,.slice At nt ct],.agg #[(f0:Int),(f1:Int),(f2:Int),(f3:Int)]] W (BOut a9 q a M w0 W ns1 er1 (0+44+gO) (λx=>φ0 x&&(phi 65535 (setL [ad] 0) 255 255) x))):=λns1 er1 W b hf=>qE b h0 h16 AO hf;generalize setL [ad] 0=z at *;generalize setL bs 0=zb at *;have Q0:Qs a9 q a M w0 ((w.alloc (.cells #[.string nm,kd,ad,.int .u8 pl,.slice Ab nb cb,.slice A n cap,.slice At nt ct] 70)).alloc (.cells #[(f0:Int),(f1:Int),(f2:Int),(f3:Int)] 87)) ns er 0 [(f0,φ0),(f1,φ1)] [(w.heap.size+1,#[(f0:Int),(f1:Int),(f2:Int),(f3:Int)],87),(w.heap.size,#[.string nm,kd,ad,.int .u8 pl,.slice Ab nb cb,.slice A n cap,.slice At nt ct],70)] ((w.alloc (.cells #[.string nm,kd,ad,.int .u8 pl,.slice Ab nb cb,.slice A n cap,.slice At nt ct] 70)).alloc (.cells #[(f0:Int),(f1:Int),(f2:Int),(f3:Int)] 87)):=((Qs.start h1 (fs:=[(f0,φ0),(f1,φ1)]) (λx hx=>by
  rcases List.mem_cons.1 hx with rfl|hx
  ·exact hf0
  ·rw[List.mem_singleton.1 hx];exact hf1)).boxed Z1 (by decide)).boxed Z2 (by decide)
 have tfw:TF w ((w.alloc (.cells #[.string nm,kd,ad,.int .u8 pl,.slice Ab nb cb,.slice A n cap,.slice At nt ct] 70)).alloc (.cells #[(f0:Int),(f1:Int),(f2:Int),(f3:Int)] 87)):=cH w _ _;obtain⟨V0,hV0⟩:∃V:Nat->List (Nat × (Env->Bool))->List Bx->World->Prop,V=λg fs bx W=>Qs a9 q a M w0 ((w.alloc (.cells #[.string nm,kd,ad,.int .u8 pl,.slice Ab nb cb,.slice A n cap,.slice At nt ct] 70)).alloc (.cells #[(f0:Int),(f1:Int),(f2:Int),(f3:Int)] 87)) ns er g fs (bx++[(w.heap.size+1,#[.int .i64 (f0:Int),.int .i64 (f1:Int),.int .i64 (f2:Int),.int .i64 (f3:Int)],87),(w.heap.size,#[.string nm,.int .i64 kd,.int .i64 ad,.int .u8 pl,.slice Ab nb cb,.slice A n cap,.slice At nt ct],70)]) W:=⟨_,rfl⟩;have V5:V0 0 [(f0,φ0),(f1,φ1)] [] ((w.alloc (.cells #[.string nm,kd,ad,.int .u8 pl,.slice Ab nb cb,.slice A n cap,.slice At nt ct] 70)).alloc (.cells #[(f0:Int),(f1:Int),(f2:Int),(f3:Int)] 87)).drew:=by rw[hV0];exact Q0.drew
 have HC:Hid (∀{g:Nat} {fs:List (Nat × (Env->Bool))} {bx:List Bx} {W:World},V0 g fs bx W->(W.cell? ⟨w,0,none⟩=some (.string nm) /\ W.cell? ⟨w,1,none⟩=some (.int .i64 kd) /\ W.cell? ⟨w,2,none⟩=some (.int .i64 ad) /\ W.cell? ⟨w,3,none⟩=some (.int .u8 pl) /\ W.cell? ⟨w,4,none⟩=some (.slice Ab nb cb) /\ W.cell? ⟨w,5,none⟩=some (.slice A n cap) /\ W.cell? ⟨w,6,none⟩=some (.slice At nt ct)) /\ (W.cell? ⟨w.heap.size+1,0,none⟩=some (.int .i64 (f0:Int)) /\ W.cell? ⟨w.heap.size+1,1,none⟩=some (.int .i64 (f1:Int)) /\ W.cell? ⟨w.heap.size+1,2,none⟩=some (.int .i64 (f2:Int)) /\ W.cell? ⟨w.heap.size+1,3,none⟩=some (.int .i64 (f3:Int)))):=λ{g fs bx W} hq=>by
  rw[hV0]at hq;have k2:=(hq.bz _ (List.mem_append_right _ List.mem_cons_self)).1;have k3:=(hq.bz _ (List.mem_append_right _ (List.mem_cons_of_mem _ List.mem_cons_self))).1;exact⟨⟨k3.cell 0 _ rfl,k3.cell 1 _ rfl,k3.cell 2 _ rfl,k3.cell 3 _ rfl,k3.cell 4 _ rfl,k3.cell 5 _ rfl,k3.cell 6 _ rfl⟩,k2.cell 0 _ rfl,k2.cell 1 _ rfl,k2.cell 2 _ rfl,k2.cell 3 _ rfl⟩
 have ALB:∀{g:Nat} {fs:List (Nat × (Env->Bool))} {W:World},V0 g fs [] W->V0 g fs [(W.heap.size,#[ad],3)] (W.alloc (.cells #[ad] 3)):=λ{g fs W} hq=>by rw[hV0]at hq ⊢;exact hq.box rfl (by decide)
 have NB:∀{g:Nat} {fs:List (Nat × (Env->Bool))} {bx:List Bx} {W:World},V0 g fs bx W->V0 g fs [] W:=λ{g fs bx W} hq=>by
  rw[hV0]at hq ⊢;exact⟨hq.st,λb hb=>hq.bz b (List.mem_append_right _ hb),hq.bT⟩
 have DRW:∀{g:Nat} {fs:List (Nat × (Env->Bool))} {bx:List Bx} {W:World},V0 g fs bx W->V0 g fs bx W.drew:=λ{g fs bx W} hq=>by rw[hV0]at hq ⊢;exact hq.drew
 have CI:Hid (∀{g:Nat} {fs:List (Nat × (Env->Bool))} {k:Nat} {W:World},V0 g fs [(k,#[ad],3)] W->Cl 61 #[.slice k 1 1] W λe w'=>e=.returned (.agg #[.int .u16 (z:Int),.int .u16 65535,.int .u8 255,.int .u8 255]) /\ V0 g fs [(k,#[ad],3)] w'):=λ{g fs k W} hq=>by
  rw[hV0]at hq ⊢;exact(SI.out k W (hq.bz _ List.mem_cons_self).1).mono λe w' ⟨h1,h2⟩=>⟨h1,hq.grow h2⟩
 have CS:Hid (∀{g:Nat} {fs:List (Nat × (Env->Bool))} {bx:List Bx} {W:World},V0 g fs bx W->Cl 61 #[.slice Ab nb cb] W λe w'=>e=.returned (.agg #[.int .u16 (zb:Int),.int .u16 65535,.int .u8 255,.int .u8 255]) /\ V0 g fs bx w' /\ Below W W w'):=λ{g fs bx W} hq=>by
  rw[hV0]at hq ⊢;obtain⟨ns1,er1,s1,hf⟩:=hq.st;exact(SB.out W s1.bn.size s1.bn.bel).mono λe w' ⟨h1,h2⟩=>⟨h1,hq.grow h2,h2⟩
 have CM:Hid (∀{g:Nat} {fs:List (Nat × (Env->Bool))} {bx:List Bx} {W:World},V0 g fs bx W->Cl 69 #[.pointer q,.agg #[.int .u16 (zb:Int),.int .u16 65535,.int .u8 255,.int .u8 255]] W λe w'=>∃f:Nat,e=.returned (f:Int) /\ V0 (g+44) ((f,phi zb 65535 255 255)::fs) bx w'):=λ{g fs bx W} hq=>by
  rw[hV0]at hq ⊢;exact hq.call λ_ _ b _=>eO b zb 65535 255 255 hzb (by omega) (by omega) (by omega)
 have CO:Hid (∀{g:Nat} {fs:List (Nat × (Env->Bool))} {bx:List Bx} {W:World},V0 g fs bx W->(f0,φ0)∈fs->Cl 169 #[.pointer q,.agg #[.string nm,kd,ad,.int .u8 pl,.slice Ab nb cb,.slice A n cap,.slice At nt ct],.agg #[(f0:Int),(f1:Int),(f2:Int),(f3:Int)]] W λe w'=>∃f:Nat,e=.returned (f:Int) /\ V0 (g+(0+44+gO)) ((f,(λx=>φ0 x&&phi 65535 z 255 255 x))::fs) bx w'):=λ{g fs bx W} hq m1=>by
  rw[hV0]at hq ⊢;exact hq.call λ_ _ b hf=>OW.out _ _ _ b (hf _ m1)
 have C1:Hid (∀{g:Nat} {fs:List (Nat × (Env->Bool))} {bx:List Bx} {W:World} (i:Nat),V0 g fs bx W->(i,(λx=>φ0 x&&phi 65535 z 255 255 x))∈fs->Cl 167 #[.pointer q,(i:Int)] W λe w'=>∃f:Nat,e=.returned (f:Int) /\ V0 (g+g1) ((f,φa)::fs) bx w'):=λ{g fs bx W} i hq m1=>by
  rw[hV0]at hq ⊢;exact hq.call λ_ _ b hf=>N1 _ _ _ _ b (hf _ m1)
 have CF:Hid (∀{g:Nat} {fs:List (Nat × (Env->Bool))} {bx:List Bx} {W:World} (i:Nat),V0 g fs bx W->(i,φa)∈fs->Cl 163 #[.pointer q,(i:Int)] W λe w'=>∃f:Nat,e=.returned (f:Int) /\ V0 (g+gF) ((f,flF φa)::fs) bx w'):=λ{g fs bx W} i hq m1=>by
  rw[hV0]at hq ⊢;exact hq.call λ_ _ b hf=>FB _ _ _ _ b (hf _ m1)
 have CA:Hid (∀{g:Nat} {fs:List (Nat × (Env->Bool))} {bx:List Bx} {W:World} (i j:Nat),V0 g fs bx W->(i,(phi zb 65535 255 255))∈fs->(j,(flF φa))∈fs->Cl 67 #[.pointer q,(i:Int),(j:Int)] W λe w'=>∃f:Nat,e=.returned (f:Int) /\ V0 (g+gA1) ((f,λx=>(phi zb 65535 255 255) x&&(flF φa) x)::fs) bx w'):=λ{g fs bx W} i j hq m1 m2=>by
  rw[hV0]at hq ⊢;exact hq.call λ_ _ b hf=>A1 _ _ _ _ _ b (hf _ m1) (hf _ m2)
 have CB:Hid (∀{g:Nat} {fs:List (Nat × (Env->Bool))} {bx:List Bx} {W:World} (i j:Nat),V0 g fs bx W->(i,φ1)∈fs->(j,(λx=>(phi zb 65535 255 255) x&&flF φa x))∈fs->Cl 67 #[.pointer q,(i:Int),(j:Int)] W λe w'=>∃f:Nat,e=.returned (f:Int) /\ V0 (g+gA2) ((f,λx=>φ1 x&&(λx=>(phi zb 65535 255 255) x&&flF φa x) x)::fs) bx w'):=λ{g fs bx W} i j hq m1 m2=>by
  rw[hV0]at hq ⊢;exact hq.call λ_ _ b hf=>A2 _ _ _ _ _ b (hf _ m1) (hf _ m2)
 have C2:Hid (∀{g:Nat} {fs:List (Nat × (Env->Bool))} {bx:List Bx} {W:World} (i:Nat),V0 g fs bx W->(i,(λx=>φ1 x&&(λx=>(phi zb 65535 255 255) x&&flF φa x) x))∈fs->Cl 164 #[.pointer q,(i:Int)] W λe w'=>∃f:Nat,e=.returned (f:Int) /\ V0 (g+g2) ((f,φc)::fs) bx w'):=λ{g fs bx W} i hq m1=>by
  rw[hV0]at hq ⊢;exact hq.call λ_ _ b hf=>N2 _ _ _ _ b (hf _ m1)
 have CN:Hid (∀{g:Nat} {fs:List (Nat × (Env->Bool))} {bx:List Bx} {W:World},V0 g fs bx W->Cl 69 #[.pointer q,.agg #[.int .u16 (z:Int),.int .u16 65535,.int .u8 255,.int .u8 255]] W λe w'=>∃f:Nat,e=.returned (f:Int) /\ V0 (g+44) ((f,phi z 65535 255 255)::fs) bx w'):=λ{g fs bx W} hq=>by
  rw[hV0]at hq ⊢;exact hq.call λ_ _ b _=>eO b z 65535 255 255 hz (by omega) (by omega) (by omega)
 have CE:Hid (∀{g:Nat} {fs:List (Nat × (Env->Bool))} {bx:List Bx} {W:World} (i j:Nat),V0 g fs bx W->(i,φc)∈fs->(j,(phi z 65535 255 255))∈fs->Cl 67 #[.pointer q,(i:Int),(j:Int)] W λe w'=>∃f:Nat,e=.returned (f:Int) /\ V0 (g+gA3) ((f,λx=>φc x&&(phi z 65535 255 255) x)::fs) bx w'):=λ{g fs bx W} i j hq m1 m2=>by
  rw[hV0]at hq ⊢;exact hq.call λ_ _ b hf=>A3 _ _ _ _ _ b (hf _ m1) (hf _ m2)
 have CR:Hid (∀{g:Nat} {fs:List (Nat × (Env->Bool))} {bx:List Bx} {W:World} (i j:Nat),V0 g fs bx W->(i,φ1)∈fs->(j,(λx=>φc x&&(phi z 65535 255 255) x))∈fs->Cl 106 #[.pointer q,(i:Int),(j:Int)] W λe w'=>∃f:Nat,e=.returned (f:Int) /\ V0 (g+gO1) ((f,λx=>φ1 x||(λx=>φc x&&(phi z 65535 255 255) x) x)::fs) bx w'):=λ{g fs bx W} i j hq m1 m2=>by
  rw[hV0]at hq ⊢;exact hq.call λ_ _ b hf=>O1 _ _ _ _ _ b (hf _ m1) (hf _ m2)
 have FIN:Hid (∀{fs:List (Nat × (Env->Bool))} {W:World} (f:Nat),V0 (0+44+(0+44+gO)+g1+gF+gA1+gA2+g2+44+gA3+gO1) fs [] W->(f,(λx=>φ1 x||(λx=>φc x&&(phi z 65535 255 255) x) x))∈fs->BOut a9 q a M w0 w ns er (0+44+(0+44+gO)+g1+gF+gA1+gA2+g2+44+gA3+gO1) (λx=>φ1 x||(λx=>φc x&&(phi z 65535 255 255) x) x) (.returned (f:Int)) W):=λ{fs W} f hq m=>by
  rw[hV0]at hq;exact hq.fn m tfw
 clear Q0 h1 Z1 Z2 h hf0 hf1 AO hB OW SI SB A1 A2 A3 O1 N1 N2 FB hz hzb tfw hV0;go_enter func138,ntmps138;go_wp2_with fail;go_cut [7] (λv wx=>∃fm fo fa fl fx:Nat,v=.int .i64 (fx:Int) /\ V0 (0+44+(0+44+gO)+g1+gF+gA1) [(fx,(λx=>(phi zb 65535 255 255) x&&flF φa x)),(fl,flF φa),(fa,φa),(fo,(λx=>φ0 x&&phi 65535 z 255 255 x)),(fm,(phi zb 65535 255 255)),(f0,φ0),(f1,φ1)] [] wx)
 case first =>
  go_region_held3 (λW=>(W.cell? ⟨w,0,none⟩=some (.string nm) /\ W.cell? ⟨w,1,none⟩=some (.int .i64 kd) /\ W.cell? ⟨w,2,none⟩=some (.int .i64 ad) /\ W.cell? ⟨w,3,none⟩=some (.int .u8 pl) /\ W.cell? ⟨w,4,none⟩=some (.slice Ab nb cb) /\ W.cell? ⟨w,5,none⟩=some (.slice A n cap) /\ W.cell? ⟨w,6,none⟩=some (.slice At nt ct)) /\ (W.cell? ⟨w.heap.size+1,0,none⟩=some (.int .i64 (f0:Int)) /\ W.cell? ⟨w.heap.size+1,1,none⟩=some (.int .i64 (f1:Int)) /\ W.cell? ⟨w.heap.size+1,2,none⟩=some (.int .i64 (f2:Int)) /\ W.cell? ⟨w.heap.size+1,3,none⟩=some (.int .i64 (f3:Int)))) (exact HC.out ‹_›)
   ((first
     | (go_at_call 61;(with_reducible refine(CS.out V5).mono ?_);rintro e w6⟨rfl,V6,_⟩;skip)
     | (go_at_call 69;(with_reducible refine(CM.out V6).mono ?_);rintro e w7⟨fm,rfl,V7⟩;skip)
     | (go_at_call 169;(with_reducible refine(CO.out V7 (List.Mem.tail _ (List.Mem.head _))).mono ?_);rintro e w8⟨fo,rfl,V8⟩;skip)
     | (go_at_call 167;(with_reducible refine(C1.out _ V8 (List.Mem.head _)).mono ?_);rintro e w9⟨fa,rfl,V9⟩;skip)
     | (go_at_call 163;(with_reducible refine(CF.out _ V9 (List.Mem.head _)).mono ?_);rintro e wa⟨fl,rfl,VA⟩;skip)
     | (go_at_call 67;(with_reducible refine(CA.out _ _ VA (List.Mem.tail _ (List.Mem.tail _ (List.Mem.tail _ (List.Mem.head _)))) (List.Mem.head _)).mono ?_);rintro e wb⟨fx,rfl,VB⟩;skip)))
  all_goals
   go_wp2_with fail
   go_meet
   exact⟨fm,fo,fa,fl,fx,rfl,VB⟩
 case rest =>
  clear V5 CS CM CO C1 CF CA;obtain⟨fm,fo,fa,fl,fx,rfl,V5⟩:=hcut;have V6:=DRW V5;clear V5;go_wp2_with fail;go_cut [8] (λv wx=>∃(fy:Nat) (fs:List (Nat × (Env->Bool))),v=.int .i64 (fy:Int) /\ V0 (0+44+(0+44+gO)+g1+gF+gA1+gA2+g2+44+gA3) ((fy,(λx=>φc x&&(phi z 65535 255 255) x))::fs) [] wx /\ (f1,φ1)∈fs)
  case first =>
   have V6a:V0 (0+44+(0+44+gO)+g1+gF+gA1) [(fx,(λx=>(phi zb 65535 255 255) x&&flF φa x)),(fl,flF φa),(fa,φa),(fo,(λx=>φ0 x&&phi 65535 z 255 255 x)),(fm,(phi zb 65535 255 255)),(f0,φ0),(f1,φ1)] [(wc.heap.size,#[ad],3)] (wc.alloc (.cells #[ad] 3)).drew:=ALB V6;go_region_held3 (λW=>(W.cell? ⟨w,0,none⟩=some (.string nm) /\ W.cell? ⟨w,1,none⟩=some (.int .i64 kd) /\ W.cell? ⟨w,2,none⟩=some (.int .i64 ad) /\ W.cell? ⟨w,3,none⟩=some (.int .u8 pl) /\ W.cell? ⟨w,4,none⟩=some (.slice Ab nb cb) /\ W.cell? ⟨w,5,none⟩=some (.slice A n cap) /\ W.cell? ⟨w,6,none⟩=some (.slice At nt ct)) /\ (W.cell? ⟨w.heap.size+1,0,none⟩=some (.int .i64 (f0:Int)) /\ W.cell? ⟨w.heap.size+1,1,none⟩=some (.int .i64 (f1:Int)) /\ W.cell? ⟨w.heap.size+1,2,none⟩=some (.int .i64 (f2:Int)) /\ W.cell? ⟨w.heap.size+1,3,none⟩=some (.int .i64 (f3:Int)))) (first|exact HC.out ‹_›|exact HC.out (ALB ‹_›))
    ((first
      | (go_at_call 67;(with_reducible refine(CB.out _ _ V6 (List.Mem.tail _ (List.Mem.tail _ (List.Mem.tail _ (List.Mem.tail _ (List.Mem.tail _ (List.Mem.tail _ (List.Mem.head _))))))) (List.Mem.head _)).mono ?_);rintro e w7⟨fc,rfl,V7⟩;skip)
      | (go_at_call 67;(with_reducible refine(CB.out _ _ V6a (List.Mem.tail _ (List.Mem.tail _ (List.Mem.tail _ (List.Mem.tail _ (List.Mem.tail _ (List.Mem.tail _ (List.Mem.head _))))))) (List.Mem.head _)).mono ?_);rintro e w7⟨fc,rfl,V7a⟩;skip)
      | (go_at_call 164;(with_reducible refine(C2.out _ V7a (List.Mem.head _)).mono ?_);rintro e w8⟨fd,rfl,V8a⟩;skip)
      | (go_at_call 164;(with_reducible refine(C2.out _ (ALB V7) (List.Mem.head _)).mono ?_);rintro e w8⟨fd,rfl,V8a⟩;skip)
      | (go_at_call 164;(with_reducible refine(C2.out _ V7 (List.Mem.head _)).mono ?_);rintro e w8⟨fd,rfl,V8⟩;skip)
      | (go_at_call 61;(with_reducible refine(CI.out V8a).mono ?_);rintro e w9⟨rfl,V9⟩;skip)
      | (go_at_call 61;(with_reducible refine(CI.out (ALB V8)).mono ?_);rintro e w9⟨rfl,V9⟩;skip)
      | (go_at_call 69;(with_reducible refine(CN.out V9).mono ?_);rintro e wa⟨fe,rfl,VA⟩;skip)
      | (go_at_call 67;(with_reducible refine(CE.out _ _ VA (List.Mem.tail _ (List.Mem.head _)) (List.Mem.head _)).mono ?_);rintro e wb⟨fg,rfl,VB⟩;skip)))
   all_goals
    go_wp2_with fail
    go_meet
    exact⟨fg,_,rfl,NB VB,(List.Mem.tail _ (List.Mem.tail _ (List.Mem.tail _ (List.Mem.tail _ (List.Mem.tail _ (List.Mem.tail _ (List.Mem.tail _ (List.Mem.tail _ (List.Mem.tail _ (List.Mem.head _))))))))))⟩
  case rest =>
   clear V6 CB C2 CN CE CI;obtain⟨fy,fs,rfl,V7,m7⟩:=hcut;obtain⟨⟨d0,d1,d2,d3,d4,d5,d6⟩,e0,e1,e2,e3⟩:=HC.out V7;go_wp2_with fail;with_reducible refine(CR.out _ _ V7 (List.Mem.tail _ m7) (List.Mem.head _)).mono ?_
   rintro e w8⟨fz,rfl,V8⟩;have FF:=FIN.out _ V8 (List.Mem.head _);clear HC CR FIN V8 V7 d0 d1 d2 d3 d4 d5 d6 e0 e1 e2 e3;go_wp2_with fail;go_ret;exact FF
end
def bL(xs:List Rt)(q:Int)(i:Nat):Bool:=outB xs (i:Int)&&(outN xs (i:Int) == q)
theorem tD(z c:Nat)(hz:z<65536)(hc:c<16):Go.bits .or .u16 (z:Int) (IntKind.u16.wrap (2 ^ c))=((z ||| 2 ^ c:Nat):Int) /\ z ||| 2 ^ c<65536:=by
 have hp:2 ^ c<65536:=Nat.pow_lt_pow_right (a:=2) (by omega) (show c<16 by omega);have hlt:z ||| 2 ^ c<65536:=Nat.or_lt_two_pow (n:=16) hz hp
 have e0:IntKind.u16.wrap (2 ^ c)=((2 ^ c:Nat):Int):=by
  have e:(2:Int) ^ c=((2 ^ c:Nat):Int):=by simp
  rw[e];exact IntWalk.u16_in _ ⟨Int.natCast_nonneg _,by have:=Int.ofNat_lt.2 hp;omega⟩
 refine⟨?_,hlt⟩;rw[e0];generalize 2 ^ c=p at *;have e1:BitVec.ofInt 16 (z:Int)=BitVec.ofNat 16 z:=by simp
 have e2:BitVec.ofInt 16 (p:Int)=BitVec.ofNat 16 p:=by simp
 have hm:(BitVec.ofNat 16 z ||| BitVec.ofNat 16 p).toNat=z ||| p:=by
  simp[BitVec.toNat_or,Nat.mod_eq_of_lt hz,Nat.mod_eq_of_lt hp]
 show IntKind.u16.wrap ((BitVec.ofInt 16 (z:Int) ||| BitVec.ofInt 16 (p:Int)).toNat:Int)=_;rw[e1,e2,hm];exact IntWalk.u16_in _ (by omega)
theorem tE{v:Value}{xs:List Rt}(q:Int)(w:World)(h:Hid (Routes w w v xs)) :
  Cl 214 #[v,q] w λe w'=>∃s:Nat,e=.returned (.int .u16 (s:Int)) /\ s<65536 /\ Hid (∀i,i<16->s.testBit i=bL xs q i) /\ Below w w w':=by
 go_enter func214,ntmps214;go_wp2_with fail;go_loopw[5,9] (λs i wr=>∃c z:Nat,i=.int .i64 (c:Int) /\ s=.int .u16 (z:Int) /\ c<=16 /\ z<65536 /\ Below w w wr /\ Hid (∀i,z.testBit i=(decide (i<c)&&bL xs q i))) (λ_ i _=>16-(intOf i).toNat)
 case atStart=>exact⟨0,0,rfl,rfl,by omega,by omega,Below.refl _ _,λi=>by simp⟩
 case round =>
  obtain⟨c,z,rfl,rfl,hc,hz,D1,hb⟩:=hrel;by_cases hlt:c<16
  ·have OU:Hid (Cl 178 #[v,(c:Int)] wr λe w''=>e=.returned (.tuple #[.int .i64 (outN xs (c:Int)),.bool (outB xs (c:Int))]) /\ Below wr wr w''):=mg (c:Int) wr ((h.out.below D1).mono D1.size);have HS:Hid (bL xs q c=(outB xs (c:Int)&&(outN xs (c:Int) == q))):=rfl;obtain⟨o1,o2⟩:=tD z c hz hlt;have NO:Hid (bL xs q c=false->∀i,z.testBit i=(decide (i<c+1)&&bL xs q i)):=λhn i=>by
    rw[hb.out i];by_cases hi:i=c
    ·subst hi;rw[hn];simp
    ·congr 1
     rw[decide_eq_decide];omega
   have YES:Hid (bL xs q c=true->∀i,(z ||| 2 ^ c).testBit i=(decide (i<c+1)&&bL xs q i)):=λhy i=>by
    rw[Nat.testBit_or,hb.out i,Nat.testBit_two_pow];by_cases hi:i=c
    ·subst hi;rw[hy];simp
    ·have e1:decide (i<c+1)=decide (i<c):=by rw[decide_eq_decide];omega
     have e2:decide (c=i)=false:=by simp;omega
     rw[e1,e2,Bool.or_false]
   clear hb;generalize outN xs (c:Int)=n0 at *;generalize outB xs (c:Int)=k0 at *;go_wp2_with fail;refine OU.out.mono ?_;rintro e w2⟨rfl,hb2⟩;have D2:=chn hb2 D1;clear OU hb2 D1;cases k0
   ·have NO':Hid (∀i,z.testBit i=(decide (i<c+1)&&bL xs q i)):=NO.out (by rw[HS.out];rfl);clear NO YES HS o1 o2;go_wp2_with fail;go_roundw
    case rel=>exact⟨c+1,z,by go_num,rfl,by omega,hz,D2,NO'⟩
    case measure=>simp[intOf];omega
   ·cases hq:(n0 == q)
    ·have NO':Hid (∀i,z.testBit i=(decide (i<c+1)&&bL xs q i)):=NO.out (by rw[HS.out,hq];rfl);clear NO YES HS o1 o2;go_wp2_with fail;go_roundw
     case rel=>exact⟨c+1,z,by go_num,rfl,by omega,hz,D2,NO'⟩
     case measure=>simp[intOf];omega
    ·have YES':Hid (∀i,(z ||| 2 ^ c).testBit i=(decide (i<c+1)&&bL xs q i)):=YES.out (by rw[HS.out,hq];rfl);have O1:Hid (Go.bits .or .u16 (z:Int) (IntKind.u16.wrap (2 ^ c))=((z ||| 2 ^ c:Nat):Int)):=o1;clear NO YES HS o1;go_wp2_with fail;go_roundw
     case rel=>exact⟨c+1,z ||| 2 ^ c,by go_num,congrArg (Value.int .u16) O1.out,by omega,o2,D2,YES'⟩
     case measure=>simp[intOf];omega
  ·obtain rfl:c=16:=by omega
   have fin:Hid (∀i,i<16->z.testBit i=bL xs q i):=λi hi=>by
    rw[hb.out i,decide_eq_true hi];rfl
   clear hb;go_wp2_with fail;go_ret;exact⟨z,rfl,hz,fin,D1⟩
theorem tF(w:World)(n:Nat)(x:Value)(a b c d:Value)(h:Four w n a b c d):(w.setCell ⟨n,1,none⟩ x).cell? ⟨n,0,none⟩=some a /\ (w.setCell ⟨n,1,none⟩ x).cell? ⟨n,1,none⟩=some x /\ (w.setCell ⟨n,1,none⟩ x).cell? ⟨n,2,none⟩=some c /\ (w.setCell ⟨n,1,none⟩ x).cell? ⟨n,3,none⟩=some d:=by
 obtain⟨h0,h1,h2,h3,h4⟩:=h;refine⟨?_,?_,?_,?_⟩ <;> simp[go_sem,h1,h2,h3,h4]
section
variable {a9 a M:Nat}{w:World}{ns:List Nd}
theorem tG(h:Ar a9 a M 14 40000 w ns){v:Value}{xs:List Rt}(q:Int)(hR:Hid (Routes w w v xs))(hc:checkV xs=0) :
  Cl 197 #[.pointer a,v,q] w λe w'=>∃s:Nat,(s<65536 /\ Hid (∀i,i<16->s.testBit i=bL xs q i)) /\ MkPost a9 a M 14 40000 w ns 44 0 (phi 65535 s 255 255) e w':=by
 have CK:Hid (Cl 94 #[v] w λe w''=>e=.returned (.int .i64 0) /\ Below w w w''):=by
  have:=oz w hR.out;rw[hc]at this;exact this
 clear hc;go_enter func197,ntmps197;go_wp2_with fail;refine CK.out.mono ?_;rintro e w1⟨rfl,D1⟩;clear CK;go_wp2_with fail;refine(all_any _).mono ?_;rintro e w2⟨rfl,hb2⟩;have D2:=chn hb2 D1;have D3:=Below.al D2 (.cells #[.int .u16 65535,.int .u16 65535,.int .u8 255,.int .u8 255] 30);have F3:=jf w2 (.int .u16 65535) (.int .u16 65535) (.int .u8 255) (.int .u8 255) 30;have fz3:(w2.alloc (.cells #[.int .u16 65535,.int .u16 65535,.int .u8 255,.int .u8 255] 30)).frozen? ⟨w2,1,none⟩=false:=by simp[go_sem]
 have z2:=D2.size;have SE:Hid (Cl 214 #[v,q] (w2.alloc (.cells #[.int .u16 65535,.int .u16 65535,.int .u8 255,.int .u8 255] 30)) λe w'=>∃s:Nat,e=.returned (.int .u16 (s:Int)) /\ s<65536 /\ Hid (∀i,i<16->s.testBit i=bL xs q i) /\ Below (w2.alloc (.cells #[.int .u16 65535,.int .u16 65535,.int .u8 255,.int .u8 255] 30)).heap.size (w2.alloc (.cells #[.int .u16 65535,.int .u16 65535,.int .u8 255,.int .u8 255] 30)) w'):=tE q _ ((hR.out.below D3).mono D3.size);clear hb2 D1 D2 hR;go_wp2_with fail;refine SE.out.mono ?_;rintro e w4⟨s,rfl,hs,hbits,hb4⟩;have D4:=chn hb4 D3;have F4:=aC hb4 F3;have fz4:w4.frozen? ⟨w2,1,none⟩=false:=(hb4.frozen (p:=⟨w2,1,none⟩) (by simp)).trans fz3;have F5:=tF w4 w2.heap.size (.int .u16 (s:Int)) _ _ _ _ F4;have D5:=D4.setCell (p:=⟨w2,1,none⟩) z2 (.int .u16 (s:Int));have A5:=h.below D5;have K5:=h.kbelow D5;obtain⟨_,x0,x1,x2,x3⟩:=id F4;obtain⟨y0,y1,y2,y3⟩:=F5;have BM:Hid (Cl 60 #[.pointer a,mt 65535 s 255 255] (w4.setCell ⟨w2,1,none⟩ (.int .u16 (s:Int))) (MkPost a9 a M 14 40000 (w4.setCell ⟨w2,1,none⟩ (.int .u16 (s:Int))) ns 44 0 (phi 65535 s 255 255))):=iR A5 (Nat.le_refl _) 65535 s 255 255 (by omega) hs (by omega) (by omega);clear SE F3 fz3 D3 hb4 D4 A5 D5;go_wp2_with fail;refine BM.out.mono ?_;rintro e w6 hp;obtain⟨ns6,v6,er6,rfl,A6,K6,X6,l6,d6⟩:=hp.pair;have fin:Hid (MkPost a9 a M 14 40000 w ns 44 0 (phi 65535 s 255 255) (.returned (.tuple #[v6,er6])) w6):=by
  refine⟨ns6,A6,K5.trans K6,X6,l6,?_⟩;rcases d6.out with⟨rfl,f,rfl,r⟩|⟨rfl,rfl,r⟩
  ·exact Or.inl ⟨f,rfl,r⟩
  ·exact Or.inr ⟨rfl,r⟩
 clear BM hp d6 A6 K6 K5 X6 y0 y1 y2 y3 x0 x1 x2 x3 F4 h;go_wp2_with fail;go_ret2;exact⟨s,⟨hs,hbits⟩,fin.out⟩
end
def cZ(xs:List Rt)(q:Int):Nat->Nat
 | 0=>0
 | c+1=>if bL xs q c then cZ xs q c ||| 2 ^ c else cZ xs q c
theorem gN(xs:List Rt)(q:Int):∀(c i:Nat),(cZ xs q c).testBit i=(decide (i<c)&&bL xs q i)
 | 0,i=>by simp[cZ]
 | c+1,i=>by
   unfold cZ;cases hs:bL xs q c
   ·rw[if_neg (by simp),gN xs q c i];by_cases hi:i=c
    ·subst hi;rw[hs];simp
    ·congr 1
     rw[decide_eq_decide];omega
   ·rw[if_pos rfl,Nat.testBit_or,gN xs q c i,Nat.testBit_two_pow];by_cases hi:i=c
    ·subst hi;rw[hs];simp
    ·have e1:decide (i<c+1)=decide (i<c):=by rw[decide_eq_decide];omega
     have e2:decide (c=i)=false:=by simp;omega
     rw[e1,e2,Bool.or_false]
theorem tH{xs:List Rt}{q:Int}{s:Nat}(hs:s<65536)(hb:∀i,i<16->s.testBit i=bL xs q i):s=cZ xs q 16:=Nat.eq_of_testBit_eq λi=>by
 rw[gN];by_cases hi:i<16
 ·rw[hb i hi,decide_eq_true hi];rfl
 ·rw[decide_eq_false hi,Nat.testBit_lt_two_pow (Nat.lt_of_lt_of_le hs (Nat.pow_le_pow_right (n:=2) (by omega) (show 16<=i by omega)))];rfl
section
variable {a9 q a M:Nat}{w0 w:World}{ns:List Nd}{er:Int}
theorem tI(h:Bn a9 q a M w0 w ns er){A:Option Addr}{n cap:Nat}{pt:Int}{g0:Nat}{χ:Env->Bool}(OP:Hid (Cl 197 #[.pointer a,.slice A n cap,pt] w (cX a9 a M w ns g0 χ))) :
  Cl 161 #[.pointer q,.slice A n cap,pt] w (BOut a9 q a M w0 w ns er g0 χ):=by
 have c0:=h.blk.cell 0 _ rfl;go_enter func161,ntmps161;go_wp2_with fail;refine OP.out.mono ?_;rintro e w1⟨ns1,v,e2,rfl,A1,k1,X1,l1,hv⟩;have KP:=Hq.mk (eN (h.keep k1) v e2);have FN:Hq (∀w2,w2=(if er=0 then w1.setCell ⟨q,1,none⟩ (.int .i64 e2)else w1)->BOut a9 q a M w0 w ns er g0 χ (.returned v) w2):=⟨λw2 hw=>h.fin A1 k1 X1 l1 hv hw⟩;clear c0 OP A1 k1 X1 l1 hv h;go_wp2_with fail;refine KP.out.mono ?_;rintro e w2⟨rfl,hw⟩;have F2:=FN.out w2 hw;clear hw FN KP;go_wp2_with fail;go_ret;exact F2
theorem tJ(h:Bn a9 q a M w0 w ns er)(A:Option Addr)(n cap:Nat)(xs:List Rt)(pt:Int)(hR:Routes w w (.slice A n cap) xs)(hc:checkV xs=0) :
  Cl 161 #[.pointer q,.slice A n cap,pt] w (BOut a9 q a M w0 w ns er 44 (phi 65535 (cZ xs pt 16) 255 255)) :=
 tI h (OP:=(tG h.ar pt hR hc).mono λ_ _ ⟨s,⟨h1,h2⟩,hp⟩=>by
  rw[tH h1 h2.out]at hp;exact hp.o)
end
end Go.Proofs.YtjmclcmgpaofiaaGreat
