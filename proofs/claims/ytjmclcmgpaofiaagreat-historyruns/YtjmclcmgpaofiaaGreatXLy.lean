/-
  Ly.
-/
import Derived.Test.YtjmclcmgpaofiaaGreatProg
import Derived.WalkKit
import Derived.Below
import Derived.Deep.RegionHeld3
namespace Go.Proofs.YtjmclcmgpaofiaaGreat
open Tryz
theorem ly:(∀(xs:List Oper) (i:Nat) (h:i<xs.toArray.size),xs.toArray[i]=xs[i]'(by simpa using h)) /\ (∀(a:Oper) (ys:List Oper) (h:0<(a::ys).length),(a::ys)[0]=a) /\ (∀(a:Oper) (ys:List Oper) (i:Nat) (h:i+1<(a::ys).length),(a::ys)[i+1]=ys[i]'(by simpa using h)) /\ (∀(a:Act) (d:Nat) (v:Value),a.put (some d) v={ a with tmps:=a.tmps.setIfInBounds d v }) /\ (∀(a:Act) (v:Value),a.put none v=a) /\ (∀(xs:List Value) (i:Nat) (v:Value),xs.toArray.setIfInBounds i v=(xs.set i v).toArray) /\ (∀(a v:Value) (ys:List Value),(a::ys).set 0 v=v::ys) /\ (∀(a v:Value) (ys:List Value) (i:Nat),(a::ys).set (i+1) v=a::ys.set i v) :=
 ⟨λ_ _ h=>List.getElem_toArray h,λ_ _ _=>List.getElem_cons_zero _ _ _,λ_ _ _ h=>List.getElem_cons_succ _ _ _ h,λ_ _ _=>rfl,λ_ _=>rfl,λxs i v=>List.setIfInBounds_toArray xs i v,λ_ _ _=>rfl,λ_ _ _ _=>rfl⟩
section
variable {P:Program}{md:Region.Mode}{ops:Array Oper}{Q:Exit->Act->World->Prop}{S:World->Prop}{oi:Oper}{v:Value}{fuel:Nat}{listed:Array Bool}{a:Act}{w:World}
theorem tk(i:Nat)(h:wpAnyH P md ops Q S fuel (listed.setIfInBounds i true) (a.put oi.dst v) w)(hi:ops[i]?=some oi:=by exact rfl)(hb:(Region.noSelect ops&&(Region.free md ops listed i&&(Region.ready md ops listed).contains i))=true:=by kernel_rfl)(hQ:∀c a w,Q (.panic c) (a.put oi.dst v) w->Q (.panic c) a w:=by exact λ_ _ _ h=>h)(hw:Region.wanted oi (yielded ops a.tmps)=true:=by rfl)(hS:S w:=by assumption)(hy:∀w,S w->(execOp a.eval oi).run P w=.ok (.value v) w:=by(intro w h;(try dsimp only at h);go_simp;(try with_reducible rfl))):wpAnyH P md ops Q S (fuel+1) listed a w:=by
 simp only[Bool.and_eq_true]at hb;exact wpAnyH_take hi hb.1 hb.2.1 hb.2.2 hQ (Or.inl ⟨hw,hy⟩) hS h
theorem tk0(i:Nat)(h:wpAnyH P md ops Q S fuel (listed.setIfInBounds i true) (a.put oi.dst undef) w)(hi:ops[i]?=some oi:=by exact rfl)(hb:(Region.noSelect ops&&(Region.free md ops listed i&&(Region.ready md ops listed).contains i))=true:=by kernel_rfl)(hQ:∀c a w,Q (.panic c) (a.put oi.dst undef) w->Q (.panic c) a w:=by exact λ_ _ _ h=>h)(hw:Region.wanted oi (yielded ops a.tmps)=false:=by rfl)(hS:S w:=by assumption):wpAnyH P md ops Q S (fuel+1) listed a w:=by
 simp only[Bool.and_eq_true]at hb;exact wpAnyH_take hi hb.1 hb.2.1 hb.2.2 hQ (Or.inr ⟨hw,rfl⟩) hS h
theorem rd(i:Nat)(h:∀K':Act->World->Prop,Shut (∀a w,S w->(S w->wpAnyH P md ops Q S fuel (listed.setIfInBounds i true) a w)->K' a w)->if Region.wanted oi (yielded ops a.tmps)=true then Oper.wp P oi a w K' Q else K' (a.put oi.dst undef) w)(hi:ops[i]?=some oi:=by exact rfl)(hr:Region.ready md ops listed=[i]:=by kernel_rfl):wpAnyH P md ops Q S (fuel+1) listed a w:=wpAnyH_ready hr (by simp) (AllReadyH.cons hi h AllReadyH.nil)
end
section
open Go.RowKit
instance:Coe Int Value:=⟨λx=>.int .i64 x⟩
instance:Coe World Nat:=⟨λw=>w.heap.size⟩
instance:Coe Nat (Option Addr):=⟨λb=>some ⟨b,0,none⟩⟩
abbrev Cl:=Calls prog
abbrev CB(F:FuncId)(args:Array Value)(w:World)(v:Value):Prop:=Calls prog F args w λe w'=>e=.returned v/\Below w.heap.size w w'
abbrev CS(F:FuncId)(args:Array Value)(w:World)(v:Value):Prop:=Calls prog F args w λe w'=>e=.returned v/\w'=w
end
end Go.Proofs.YtjmclcmgpaofiaaGreat
