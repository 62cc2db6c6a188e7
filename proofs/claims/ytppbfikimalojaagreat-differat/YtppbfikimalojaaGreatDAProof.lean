/-
  PROVED: wirelaw.DifferAt returns true for every two nets, every text and every room: whatever is handed in, At answers what the document says; or there is no room. Conditions: none (the first form).
-/
import Derived.Test.YtppbfikimalojaaGreatRows
import Derived.Test.YtppbfikimalojaaGreatXAW
import Derived.ProofKit
import Derived.Carry
import Derived.OpenShut
import Derived.ChangeMaps
set_option maxHeartbeats 8000000
set_option maxRecDepth 100000
namespace Go.Proofs.YtppbfikimalojaaGreat
open Go.Proofs.Tryz
open Go.ChangeShapes Go.WideShapes Go.ChangeAt Go.RowKit Go.Deep
open Go.ChangeMaps (open_string shut_string)
theorem own:ownKnob prog.godebug=none:=by kernel_rfl
theorem lifted(os:Os)(started:os.Started)(H:Type)(enc:TypeId × Value->H) :
  ReturnsInHanded {} checked os 5 .any (Rows.differAtSpec.pre6 enc prog f5 Rows.differAtRow.domain false) (Rows.differAtSpec.post enc prog f5 false true false false):=by
 refine returnsInHanded_of_change (C:=checked) own started (by kernel_rfl) func5
  (ChangeSpec.witness6 (enc:=enc) (C:=checked) false ⟨#[],#[.agg #[.slice none 0 0,.slice none 0 0],.agg #[.slice none 0 0,.slice none 0 0],.string ⟨#[]⟩,.int .i64 0],[]⟩ 8 (by kernel_rfl) (by kernel_rfl) (by kernel_rfl) (by kernel_rfl)) ?_
 intro W b9 args ds gs before hval0 hW _ _;have hval:∀(j:Nat) t v,f5.params[j]?=some t->args[j]?=some v->Value.okWide prog W .any b9 t v:=hval0;have hW':=hW;obtain⟨p,q,hA0,hV,rfl,hfz,hnd⟩:=hW;have hA:DataW.TrodAll enc prog W 0 (λ_=>true) true f5.params.toList args.toList ds p:=hA0;rw[params5]at hA hval;obtain⟨v0,v1,v2,v3,d0,d1,d2,d3,p0,p1,p2,p3,rfl,rfl,rfl,h0,h1,h2,h3⟩:=trodAll_four hA;obtain⟨rfl,rfl⟩:=trodVars_none hV;obtain⟨vd,vl,da,la,rfl,hD,hL⟩:=kR (hval 0 25 v0 rfl rfl) h0;obtain⟨ve,vm,db,lb,rfl,hE,hM⟩:=kR (hval 1 25 v1 rfl rfl) h1;obtain⟨s,rfl,rfl,rfl,hs⟩:=open_string underlying9 (hval 2 9 v2 rfl rfl) h2;obtain⟨m,rfl⟩:=okWide_int underlying3 (hval 3 3 v3 rfl rfl);clear hA0 hval0;simp only[List.append_nil]at hW';have hlt:∀x∈p0++(p1++([]++p3)),x.block<W.heap.size:=λx hx=>by simpa using hW'.lt x (by simpa using hx)
 have hD0:=hD;have hL0:=hL;have hE0:=hE;have hM0:=hM;obtain⟨A,cap,rfl,_,_,_,_⟩:=hD;obtain⟨B,d8,rfl,_,_,_,_⟩:=hL;obtain⟨C,cq,rfl,_,_,_,_⟩:=hE;obtain⟨D,cq',rfl,_,_,_,_⟩:=hM;refine(vc A B C D cap d8 cq cq' da la db lb s m W hD0 hL0 hE0 hM0).mono λe W' ⟨he,hb⟩=>?_;subst he;have k0:=Below.trod tz6 (by kernel_rfl) (of_decide_eq_true (by kernel_rfl)) h0 hb (λx hx=>hlt x (by simp[hx]));have k1:=Below.trod tz6 (by kernel_rfl) (of_decide_eq_true (by kernel_rfl)) h1 hb (λx hx=>hlt x (by simp[hx]));have k3:=Below.trod tz6 (by kernel_rfl) (of_decide_eq_true (by kernel_rfl)) h3 hb (λx hx=>hlt x (by simp[hx]));exact⟨_,rfl,_,_,_,[],_,[],hW',trodAll_mk1 (shut_bool underlying4 _),trodAll_mk4 k0 k1 (shut_string underlying9 hs) k3,rfl,hb.frame _,λh=>by cases h⟩
theorem differAt_holds:Rows.DifferAtSaid :=
 OpenClaim.holds_of_wide 5 f5 rfl rfl rfl rfl rfl rfl rfl ⟨rfl,rfl,rfl,rfl,rfl⟩ rfl rfl rfl rfl rfl (by kernel_rfl) func5 (by kernel_rfl)
  (of_decide_eq_true (by kernel_rfl)) (by unfold Func.isWrapper;rw[if_neg (of_decide_eq_false (by kernel_rfl))];exact⟨rfl,rfl⟩)
  (λos started H enc _=>lifted os started H enc)
#print axioms differAt_holds
end Go.Proofs.YtppbfikimalojaaGreat
