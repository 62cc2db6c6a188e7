/-
  PROVED: wirelaw.ReachSays returns true for every net, every room, every place (each part of it any int), every packet and every match: whatever is handed in, the sets are what the document says, asked for a place, a packet, a match; or there is no room. Conditions: none (the first form).
-/
import Derived.Test.YtppbfikimalojaaGreatRows
import Derived.Test.YtppbfikimalojaaGreatXAT
import Derived.ProofKit
import Derived.Carry
import Derived.OpenShut
import Derived.Lib.SmallJoins
set_option maxHeartbeats 8000000
set_option maxRecDepth 100000
namespace Go.Proofs.YtppbfikimalojaaGreat
open Go.ChangeShapes Go.WideShapes Go.ChangeAt Go.RowKit Go.Deep Go.Joins
theorem own : ownKnob Tryz.prog.godebug = none:=by kernel_rfl
theorem cellsPacketF : Tryz.prog.cellsOf 29 = 4:=by kernel_rfl
theorem cellsMatchF : Tryz.prog.cellsOf 32 = 4:=by kernel_rfl
theorem cellsPlaceF : Tryz.prog.cellsOf 27 = 2:=by kernel_rfl
theorem cellsIntF : Tryz.prog.cellsOf 3 = 1:=by kernel_rfl
theorem nat_of {x : Int} {n : Nat} (h0 : 0 <= x) (h1 : x <= (n : Int)) : ∃ k : Nat,x = (k : Int) /\ k < n + 1:=⟨x.toNat,by omega,by omega⟩
section
variable {H : Type} {enc : TypeId × Value -> H} {W : World} {sp : Nat -> Bool} {held : Bool}
theorem packet_open {r : Reach} {b0 : Nat} {v : Value} {d : DataW H} {p : List MemPlace} (hv : Value.okWide Tryz.prog W r b0 29 v) (h : DataW.Trod enc Tryz.prog W 0 sp held 29 v d p) : ∃ a b c e : Int,v = .agg #[.int .i64 a,.int .i64 b,.int .i64 c,.int .i64 e]:=by
 obtain ⟨cs,rfl,hsz⟩:=okWide_struct Tryz.underlying29 hv;obtain ⟨fuel,h⟩:=h;rw [cellsPacketF] at hsz;obtain ⟨l⟩:=cs;simp only [Value.cells] at h;obtain ⟨xs,k,hk,hxy,_,hxl,hf⟩:=DataW.trod_struct Tryz.underlying29 h
 match xs,hxl,l,hsz with
 | [y0,y1,y2,y3],_,[v0,v1,v2,v3],_ =>
   have g0:=hf 0 _ rfl;have g1:=hf 1 _ rfl;have g2:=hf 2 _ rfl;have g3:=hf 3 _ rfl;simp [cellsIntF] at g0 g1 g2 g3;obtain ⟨x0,e0,_⟩:=DataW.trod_int Tryz.underlying3 g0;obtain ⟨x1,e1,_⟩:=DataW.trod_int Tryz.underlying3 g1;obtain ⟨x2,e2,_⟩:=DataW.trod_int Tryz.underlying3 g2;obtain ⟨x3,e3,_⟩:=DataW.trod_int Tryz.underlying3 g3;simp only [List.cons.injEq,and_true] at e0 e1 e2 e3;subst e0 e1 e2 e3;exact ⟨x0,x1,x2,x3,rfl⟩
theorem place_openR {r : Reach} {b0 : Nat} {v : Value} {d : DataW H} {p : List MemPlace} (hv : Value.okWide Tryz.prog W r b0 27 v) (h : DataW.Trod enc Tryz.prog W 0 sp held 27 v d p) : ∃ a b : Int,v = .agg #[.int .i64 a,.int .i64 b] /\ i64ok a /\ i64ok b:=by
 obtain ⟨cs,rfl,hsz⟩:=okWide_struct Tryz.underlying27 hv;obtain ⟨fuel,h⟩:=h;rw [cellsPlaceF] at hsz;obtain ⟨l⟩:=cs;simp only [Value.cells] at h;obtain ⟨xs,k,hk,hxy,_,hxl,hf⟩:=DataW.trod_struct Tryz.underlying27 h
 match xs,hxl,l,hsz with
 | [y0,y1],_,[v0,v1],_ =>
   have g0:=hf 0 _ rfl;have g1:=hf 1 _ rfl;simp [cellsIntF] at g0 g1;obtain ⟨x0,e0,_,w0⟩:=DataW.trod_int Tryz.underlying3 g0;obtain ⟨x1,e1,_,w1⟩:=DataW.trod_int Tryz.underlying3 g1;simp only [List.cons.injEq,and_true] at e0 e1;subst e0 e1;exact ⟨x0,x1,rfl,w0,w1⟩
theorem match_openR {r : Reach} {b0 : Nat} {v : Value} {d : DataW H} {p : List MemPlace} (hv : Value.okWide Tryz.prog W r b0 32 v) (h : DataW.Trod enc Tryz.prog W 0 sp held 32 v d p) : ∃ a b c e : Nat,v = .agg #[.int .u16 (a : Int),.int .u16 (b : Int),.int .u8 (c : Int),.int .u8 (e : Int)] /\ a < 65536 /\ b < 65536 /\ c < 256 /\ e < 256:=by
 obtain ⟨c0,c1,c2,c3,y0,y1,y2,y3,m,rfl,rfl,rfl,hy0,hy1,hy2,hy3⟩:=open_agg4 Tryz.underlying32 (by kernel_rfl) cellsMatchF hv h;obtain ⟨a,e0,_,wa⟩:=DataW.trod_int Tryz.underlying30 hy0;obtain ⟨b,e1,_,wb⟩:=DataW.trod_int Tryz.underlying30 hy1;obtain ⟨c,e2,_,wc⟩:=DataW.trod_int Tryz.underlying5 hy2;obtain ⟨d,e3,_,wd⟩:=DataW.trod_int Tryz.underlying5 hy3;simp at e0 e1 e2 e3;subst e0 e1 e2 e3;obtain ⟨na,rfl,la⟩:=nat_of (n:=65535) (bounds_u16 wa).1 (bounds_u16 wa).2;obtain ⟨nb,rfl,lb⟩:=nat_of (n:=65535) (bounds_u16 wb).1 (bounds_u16 wb).2;obtain ⟨nc,rfl,lc⟩:=nat_of (n:=255) (bounds_u8 wc).1 (bounds_u8 wc).2;obtain ⟨nd',rfl,ld⟩:=nat_of (n:=255) (bounds_u8 wd).1 (bounds_u8 wd).2;exact ⟨na,nb,nc,nd',rfl,la,lb,lc,ld⟩
end
theorem lifted (os : Os) (started : os.Started) (H : Type) (enc : TypeId × Value -> H) :
  ReturnsInHanded {} Tryz.checked os 3 .any (Rows.reachSaysSpec.pre6 enc Tryz.prog Tryz.f3 Rows.reachSaysRow.domain false) (Rows.reachSaysSpec.post enc Tryz.prog Tryz.f3 false true false false):=by
 refine returnsInHanded_of_change (C:=Tryz.checked) own started (by kernel_rfl) Tryz.func3
  (ChangeSpec.witness6 (enc:=enc) (C:=Tryz.checked) false ⟨#[],#[.agg #[.slice none 0 0,.slice none 0 0],.int .i64 0,.agg #[.int .i64 0,.int .i64 0],.agg #[.int .i64 0,.int .i64 0,.int .i64 0,.int .i64 0],.agg #[.int .u16 0,.int .u16 0,.int .u8 0,.int .u8 0]],[]⟩ 8 (by kernel_rfl) (by kernel_rfl) (by kernel_rfl) (by kernel_rfl)) ?_
 intro W base args ds gs before hval0 hW _ _;have hval : ∀ (j : Nat) t v,Tryz.f3.params[j]? = some t -> args[j]? = some v -> Value.okWide Tryz.prog W .any base t v:=hval0;have hW':=hW;obtain ⟨p,q,hA0,hV,rfl,hfz,hnd⟩:=hW;have hA : DataW.TrodAll enc Tryz.prog W 0 (fun _=>true) true Tryz.f3.params.toList args.toList ds p:=hA0;rw [Tryz.params3] at hA hval;obtain ⟨v0,vs0,d0,ds0,p0,q0,hargs,rfl,rfl,h0,hr0⟩:=trodAll_cons hA;obtain ⟨v1,v2,v3,v4,d1,d2,d3,d4,p1,p2,p3,p4,hv4,rfl,rfl,h1,h2,h3,h4⟩:=trodAll_four (args:=vs0.toArray) (by simpa using hr0);obtain ⟨rfl,rfl⟩:=trodVars_none hV;obtain rfl : vs0 = [v1,v2,v3,v4]:=by simpa using congrArg Array.toList hv4
 obtain rfl : args = #[v0,v1,v2,v3,v4]:=by cases args;simp_all
 obtain ⟨vd,vl,dv,lk,rfl,hD,hL⟩:=net_open (hval 0 25 v0 rfl rfl) h0;obtain ⟨m,rfl⟩:=okWide_int Tryz.underlying3 (hval 1 3 v1 rfl rfl);obtain ⟨i,j,rfl,wi,wj⟩:=place_openR (hval 2 27 v2 rfl rfl) h2;obtain ⟨x,y,z,u,rfl⟩:=packet_open (hval 3 29 v3 rfl rfl) h3;obtain ⟨sa,sb,sc,sd,rfl,la,lb,lc,ld⟩:=match_openR (hval 4 32 v4 rfl rfl) h4;clear hA0 hval0;simp only [List.append_nil] at hW';have hlt : ∀ x ∈ p0 ++ (p1 ++ (p2 ++ (p3 ++ p4))),x.block < W.heap.size:=fun x hx=>by simpa using hW'.lt x (by simpa using hx)
 have hD0:=hD;have hL0:=hL;obtain ⟨A,cap,rfl,_,_,_,_⟩:=hD;obtain ⟨B,cap',rfl,_,_,_,_⟩:=hL;refine (rsays_any A B cap cap' dv lk m i j x y z u sa sb sc sd W hD0 hL0 ⟨wi,wj⟩ la lb lc ld).mono fun e W' ⟨he,hb⟩=>?_;subst he;have k0:=Below.trod Tryz.laidOut (by kernel_rfl) (of_decide_eq_true (by kernel_rfl)) h0 hb (fun x hx=>hlt x (by simp [hx]));have k1:=Below.trod Tryz.laidOut (by kernel_rfl) (of_decide_eq_true (by kernel_rfl)) h1 hb (fun x hx=>hlt x (by simp [hx]));have k2:=Below.trod Tryz.laidOut (by kernel_rfl) (of_decide_eq_true (by kernel_rfl)) h2 hb (fun x hx=>hlt x (by simp [hx]));have k3:=Below.trod Tryz.laidOut (by kernel_rfl) (of_decide_eq_true (by kernel_rfl)) h3 hb (fun x hx=>hlt x (by simp [hx]));have k4:=Below.trod Tryz.laidOut (by kernel_rfl) (of_decide_eq_true (by kernel_rfl)) h4 hb (fun x hx=>hlt x (by simp [hx]));exact ⟨_,rfl,_,_,_,[],_,[],hW',trodAll_mk1 (shut_bool Tryz.underlying4 _),trodAll_cons_mk k0 (trodAll_mk4 k1 k2 k3 k4),rfl,hb.frame _,fun h=>by cases h⟩
theorem reachSays_holds : Rows.ReachSaysSaid :=
 OpenClaim.holds_of_wide 3 Tryz.f3 rfl rfl rfl rfl rfl rfl rfl ⟨rfl,rfl,rfl,rfl,rfl⟩ rfl rfl rfl rfl rfl (by kernel_rfl) Tryz.func3 (by kernel_rfl)
  (of_decide_eq_true (by kernel_rfl)) (by unfold Func.isWrapper;rw [if_neg (of_decide_eq_false (by kernel_rfl))];exact ⟨rfl,rfl⟩)
  (fun os started H enc _=>lifted os started H enc)
#print axioms reachSays_holds
end Go.Proofs.YtppbfikimalojaaGreat
