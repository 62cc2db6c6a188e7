/-
  PROVED: wirekeep.HistoryRuns returns true for every net, every place (each part of it any int) and every match: what is in a set comes there by a history, which a world does, event by event, and its last one brings it. Conditions: none (the first form).
-/
import Derived.Test.YtjmclcmgpaofiaaGreatXLy
import Derived.Test.YtjmclcmgpaofiaaGreatRows
import Derived.Test.YtjmclcmgpaofiaaGreatXAV
import Derived.ProofKit
import Derived.Carry
import Derived.OpenShut
import Derived.Lib.SmallJoins
set_option maxHeartbeats 8000000
set_option maxRecDepth 100000
namespace Go.Proofs.YtjmclcmgpaofiaaGreat
open Go.Proofs.Tryz
open Go.ChangeShapes Go.WideShapes Go.ChangeAt Go.RowKit Go.Deep Go.Joins
theorem own:ownKnob prog.godebug=none:=by kernel_rfl
theorem sC:prog.cellsOf 30=4:=by kernel_rfl
theorem sE:prog.cellsOf 27=2:=by kernel_rfl
theorem sF:prog.cellsOf 3=1:=by kernel_rfl
theorem iF{x:Int}{n:Nat}(h0:0<=x)(h1:x<=(n:Int)):∃k:Nat,x=(k:Int) /\ k<n+1:=⟨x.toNat,by omega,by omega⟩
section
variable {H:Type}{enc:TypeId × Value->H}{W:World}{sp:Nat->Bool}{held:Bool}
theorem sG{r:Reach}{b0:Nat}{v:Value}{d:DataW H}{p:List MemPlace}(hv:Value.okWide prog W r b0 27 v)(h:DataW.Trod enc prog W 0 sp held 27 v d p):∃a b:Int,v=.agg #[a,b] /\ aj a /\ aj b:=by
 obtain⟨cs,rfl,hsz⟩:=okWide_struct underlying27 hv;obtain⟨fuel,h⟩:=h;rw[sE]at hsz;obtain⟨l⟩:=cs;simp only[Value.cells]at h;obtain⟨xs,k,hk,hxy,_,hxl,hf⟩:=DataW.trod_struct underlying27 h
 match xs,hxl,l,hsz with
 | [y0,y1],_,[v0,v1],_ =>
   have g0:=hf 0 _ rfl;have g1:=hf 1 _ rfl;simp[sF]at g0 g1;obtain⟨x0,e0,_,w0⟩:=DataW.trod_int underlying3 g0;obtain⟨x1,e1,_,w1⟩:=DataW.trod_int underlying3 g1;simp only[List.cons.injEq,and_true]at e0 e1;subst e0 e1;exact⟨x0,x1,rfl,w0,w1⟩
theorem sH{r:Reach}{b0:Nat}{v:Value}{d:DataW H}{p:List MemPlace}(hv:Value.okWide prog W r b0 30 v)(h:DataW.Trod enc prog W 0 sp held 30 v d p):∃a b c e:Nat,v=.agg #[.int .u16 (a:Int),.int .u16 (b:Int),.int .u8 (c:Int),.int .u8 (e:Int)] /\ a<65536 /\ b<65536 /\ c<256 /\ e<256:=by
 obtain⟨c0,c1,c2,c3,y0,y1,y2,y3,m,rfl,rfl,rfl,hy0,hy1,hy2,hy3⟩:=open_agg4 underlying30 (by kernel_rfl) sC hv h;obtain⟨a,e0,_,wa⟩:=DataW.trod_int underlying28 hy0;obtain⟨b,e1,_,wb⟩:=DataW.trod_int underlying28 hy1;obtain⟨c,e2,_,wc⟩:=DataW.trod_int underlying5 hy2;obtain⟨d,e3,_,wd⟩:=DataW.trod_int underlying5 hy3;simp at e0 e1 e2 e3;subst e0 e1 e2 e3;obtain⟨na,rfl,la⟩:=iF (n:=65535) (bounds_u16 wa).1 (bounds_u16 wa).2;obtain⟨nb,rfl,lb⟩:=iF (n:=65535) (bounds_u16 wb).1 (bounds_u16 wb).2;obtain⟨nc,rfl,lc⟩:=iF (n:=255) (bounds_u8 wc).1 (bounds_u8 wc).2;obtain⟨nd',rfl,ld⟩:=iF (n:=255) (bounds_u8 wd).1 (bounds_u8 wd).2;exact⟨na,nb,nc,nd',rfl,la,lb,lc,ld⟩
end
theorem lifted(os:Os)(started:os.Started)(H:Type)(enc:TypeId × Value->H) :
  ReturnsInHanded {} checked os 3 .any (Rows.historyRunsSpec.pre6 enc prog f3 Rows.historyRunsRow.domain false) (Rows.historyRunsSpec.post enc prog f3 false true false false):=by
 refine returnsInHanded_of_change (C:=checked) own started (by kernel_rfl) func3
  (ChangeSpec.witness6 (enc:=enc) (C:=checked) false ⟨#[],#[.agg #[.slice none 0 0,.slice none 0 0],.agg #[.int .i64 0,.int .i64 0],.agg #[.int .u16 0,.int .u16 0,.int .u8 0,.int .u8 0]],[]⟩ 8 (by kernel_rfl) (by kernel_rfl) (by kernel_rfl) (by kernel_rfl)) ?_
 intro W a9 args ds gs before hval0 hW _ _;have hval:∀(j:Nat) t v,f3.params[j]?=some t->args[j]?=some v->Value.okWide prog W .any a9 t v:=hval0;have hW':=hW;obtain⟨p,q,hA0,hV,rfl,hfz,hnd⟩:=hW;have hA:DataW.TrodAll enc prog W 0 (λ_=>true) true f3.params.toList args.toList ds p:=hA0;rw[params3]at hA hval;obtain⟨v0,v1,v2,d0,d1,d2,p0,p1,p2,rfl,rfl,rfl,h0,h1,h2⟩:=trodAll_three hA;obtain⟨rfl,rfl⟩:=trodVars_none hV;obtain⟨vd,vl,dv,lk,rfl,hD,hL⟩:=vI (hval 0 25 v0 rfl rfl) h0;obtain⟨i,j,rfl,wi,wj⟩:=sG (hval 1 27 v1 rfl rfl) h1;obtain⟨sa,sb,sc,sd,rfl,la,lb,lc,ld⟩:=sH (hval 2 30 v2 rfl rfl) h2;clear hA0 hval0;simp only[List.append_nil]at hW';have hlt:∀x∈p0++(p1++p2),x.block<W.heap.size:=λx hx=>by simpa using hW'.lt x (by simpa using hx)
 have hD0:=hD;have hL0:=hL;obtain⟨A,cap,rfl,_,_,_,_⟩:=hD;obtain⟨B,e9,rfl,_,_,_,_⟩:=hL;refine(xa A B cap e9 dv lk i j sa sb sc sd W hD0 hL0 wi wj la lb lc ld).mono λe W' ⟨he,hb⟩=>?_;subst he;have k0:=Below.trod tz6 (by kernel_rfl) (of_decide_eq_true (by kernel_rfl)) h0 hb (λx hx=>hlt x (by simp[hx]));have k1:=Below.trod tz6 (by kernel_rfl) (of_decide_eq_true (by kernel_rfl)) h1 hb (λx hx=>hlt x (by simp[hx]));have k2:=Below.trod tz6 (by kernel_rfl) (of_decide_eq_true (by kernel_rfl)) h2 hb (λx hx=>hlt x (by simp[hx]));exact⟨_,rfl,_,_,_,[],_,[],hW',trodAll_mk1 (shut_bool underlying4 _),trodAll_mk3 k0 k1 k2,rfl,hb.frame _,λh=>by cases h⟩
theorem historyRuns_holds:Rows.HistoryRunsSaid :=
 OpenClaim.holds_of_wide 3 f3 rfl rfl rfl rfl rfl rfl rfl ⟨rfl,rfl,rfl,rfl,rfl⟩ rfl rfl rfl rfl rfl (by kernel_rfl) func3 (by kernel_rfl)
  (of_decide_eq_true (by kernel_rfl)) (by unfold Func.isWrapper;rw[if_neg (of_decide_eq_false (by kernel_rfl))];exact⟨rfl,rfl⟩)
  (λos started H enc _=>lifted os started H enc)
#print axioms historyRuns_holds
end Go.Proofs.YtjmclcmgpaofiaaGreat
