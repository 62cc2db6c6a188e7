/-
  XAQ.
-/
import Derived.Test.YtppbfikimalojaaGreatXAP
import Derived.Test.YtppbfikimalojaaGreatXLy
import Derived.Test.YtppbfikimalojaaGreatXAM
import Derived.Test.YtppbfikimalojaaGreatXAO
import Derived.Test.YtppbfikimalojaaGreatXAK
set_option maxHeartbeats 8000000
set_option maxRecDepth 100000
namespace Go.Proofs.YtppbfikimalojaaGreat
open Go.RowKit Go.Maps
structure Lw (bR R MR most : Nat) (nsR : List Nd) (w : World) (base q a M : Nat) (mv : Array Value) (g : Nat) (fs : List (Nat × (Env -> Bool))) (W : World) : Prop where
 bn : ∃ ns er,Bn base q a M W W ns er /\ (∀ x ∈ fs,Fn ns er x.1 x.2) /\ (er = 0 -> ns.length <= 2 + g) /\ (er ≠ 0 -> 40000 <= 2 + g)
 ar : Ar bR R MR 14 most W nsR
 lt : R < w.heap.size /\ MR < w.heap.size /\ rowOf W R < w.heap.size /\ w.heap.size < base
 mz : Bz W w.heap.size mv 32
 bel : Below w.heap.size w W
section
variable {bR R MR most base q a M : Nat} {nsR : List Nd} {w W W' : World} {mv : Array Value} {g g' : Nat} {fs : List (Nat × (Env -> Bool))}
theorem Lw.call {F : FuncId} {args : Array Value} {φ : Env -> Bool} (s : Lw bR R MR most nsR w base q a M mv g fs W) (c : ∀ ns er,Bn base q a M W W ns er -> (∀ x ∈ fs,Fn ns er x.1 x.2) -> Calls Tryz.prog F args W (BOut base q a M W W ns er g' φ)) :
  Calls Tryz.prog F args W fun e w'=>∃ f : Nat,e = .returned (.int .i64 (f : Int)) /\ Lw bR R MR most nsR w base q a M mv (g + g') ((f,φ) :: fs) w':=by
 obtain ⟨ns,er,b,hf,l1,l2⟩:=s.bn;obtain ⟨r1,r2,r3,r4⟩:=s.lt;refine (c ns er b hf).mono fun e w2 B=>?_;obtain ⟨f,ns2,er2,rfl,⟨b1,tf⟩,X,ho,h1,hg⟩:=B;have hb:=b1.bel;have low : ∀ i,i < base -> w2.heap[i]? = W.heap[i]?:=fun i hi=>hb.block i hi;refine ⟨f,rfl,⟨ns2,er2,b1.root,fun x hx=>?_,fun e=>?_,fun e=>?_⟩,s.ar.same (low _ (by omega)) (low _ (by omega)) (low _ (by omega)),⟨r1,r2,?_,r4⟩,(low _ (by omega)).trans s.mz,s.bel.trans (hb.mono (by omega))⟩
 ·rcases List.mem_cons.1 hx with rfl | hx
  ·exact h1
  ·exact (hf x hx).step b.ar.wf b1.ar.wf X ho
 ·have e0:=ho e;have:=l1 e0;have:=(hg.out e0).1;omega
 ·by_cases e0 : er = 0
  ·have:=l1 e0;have:=(hg.out e0).2 e;omega
  ·have:=l2 e0;omega
 ·rw [rowOf_same (low R (by omega))];exact r3
theorem Lw.drew (s : Lw bR R MR most nsR w base q a M mv g fs W) : Lw bR R MR most nsR w base q a M mv g fs W.drew:=by
 obtain ⟨ns,er,b,hf,l1,l2⟩:=s.bn;exact ⟨⟨ns,er,b.drew.root,hf,l1,l2⟩,s.ar.drewT,s.lt,s.mz,s.bel.drew⟩
end
def LeastV (φ : Env -> Bool) (o : Nat) (s : Bool) : Prop :=
 (s = false /\ ∀ b,b < 16384 -> φ (envOf 14 b) = false) ∨ (s = true /\ o < 16384 /\ φ (envOf 14 o) = true /\ ∀ b,b < o -> φ (envOf 14 b) = false)
theorem IsOne.least {ns : List Nd} {f o : Nat} {s : Bool} {φ : Env -> Bool} (h : IsOne 14 ns f o s) (he : ∀ x,ev ns f x = φ x) : LeastV φ o s:=by
 rcases h with ⟨rfl,_,rfl⟩ | ⟨_,rfl,h1,h2,h3⟩
 ·exact Or.inl ⟨rfl,fun b _=>by rw [<- he,ev0]⟩
 ·exact Or.inr ⟨rfl,h1,by rw [<- he];exact h2,fun b hb=>by rw [<- he];exact h3 b hb⟩
theorem least_any {bR R MR most : Nat} {nsR : List Nd} {w : World} (hR : Ar bR R MR 14 most w nsR) {f : Nat} (hf : f < nsR.length) (sa sb sc sd : Nat) (ha : sa < 65536) (hb : sb < 65536) (hc : sc < 256) (hd : sd < 256) :
  Calls Tryz.prog 45 #[.pointer (some ⟨R,0,none⟩),.int .i64 (f : Int),mt sa sb sc sd] w fun e w'=>∃ (o : Nat) (s : Bool),e = .returned (.tuple #[.int .i64 (o : Int),.bool s]) /\ Hid (LeastV (fun x=>ev nsR f x && phi sa sb sc sd x) o s) /\ Below w.heap.size w w':=by
 have D0 : Below w.heap.size w (w.alloc (.cells #[.int .u16 (sa : Int),.int .u16 (sb : Int),.int .u8 (sc : Int),.int .u8 (sd : Int)] 32)):=Below.alloc' (Below.refl _ w) _;have Z1 : Bz (w.alloc (.cells #[.int .u16 (sa : Int),.int .u16 (sb : Int),.int .u8 (sc : Int),.int .u8 (sd : Int)] 32)) w.heap.size #[.int .u16 (sa : Int),.int .u16 (sb : Int),.int .u8 (sc : Int),.int .u8 (sd : Int)] 32:=Bz.new w _ _ _ rfl;have NBC : Hid (Calls Tryz.prog 84 #[] (w.alloc (.cells #[.int .u16 (sa : Int),.int .u16 (sb : Int),.int .u8 (sc : Int),.int .u8 (sd : Int)] 32)) fun e w'=>∃ q a M,e = .returned (.tuple #[.pointer (some ⟨q,0,none⟩),.int .i64 0]) /\ Hid (Lw bR R MR most nsR w (w.heap.size + 1) q a M #[.int .u16 (sa : Int),.int .u16 (sb : Int),.int .u8 (sc : Int),.int .u8 (sd : Int)] 0 [] w')):=(newBench_b _).mono fun e w' ⟨q,a,M,e1,b⟩=>⟨q,a,M,e1,by
  have hz : (w.alloc (.cells #[.int .u16 (sa : Int),.int .u16 (sb : Int),.int .u8 (sc : Int),.int .u8 (sd : Int)] 32)).heap.size = w.heap.size + 1:=by simp
  rw [hz] at b;have hb:=b.bel;have r1:=hR.lta;have r2:=hR.ltM;have r3:=hR.row.choose_spec.2.2;have D1:=D0.trans (hb.mono (by omega));refine ⟨⟨_,_,b.root,(fun x hx=>by cases hx),(fun _=>by simp),fun h=>absurd rfl h⟩,hR.same (D1.block _ r1) (D1.block _ r2) (D1.block _ r3),⟨r1,r2,?_,by omega⟩,(hb.block _ (by omega)).trans Z1,D1⟩;rw [rowOf_same (D1.block _ r1)];exact r3⟩
 clear D0 Z1;go_enter Tryz.func45,Tryz.ntmps45;go_wp2_with fail;with_reducible refine NBC.out.mono ?_
 rintro e w2 ⟨q,a,M,rfl,W2⟩;clear NBC;obtain ⟨V,hV⟩ : ∃ V : Nat -> List (Nat × (Env -> Bool)) -> World -> Prop,V = fun g fs W=>Lw bR R MR most nsR w (w.heap.size + 1) q a M #[.int .u16 (sa : Int),.int .u16 (sb : Int),.int .u8 (sc : Int),.int .u8 (sd : Int)] g fs W:=⟨_,rfl⟩;have V2 : V 0 [] w2.drew:=by rw [hV];exact W2.out.drew
 have HC : Hid (∀ {g : Nat} {fs : List (Nat × (Env -> Bool))} {W : World},V g fs W -> (W.cell? ⟨w.heap.size,0,none⟩ = some (.int .u16 (sa : Int)) /\ W.cell? ⟨w.heap.size,1,none⟩ = some (.int .u16 (sb : Int)) /\ W.cell? ⟨w.heap.size,2,none⟩ = some (.int .u8 (sc : Int)) /\ W.cell? ⟨w.heap.size,3,none⟩ = some (.int .u8 (sd : Int)))):=fun {g fs W} hq=>by
  rw [hV] at hq;exact ⟨hq.mz.cell 0 _ rfl,hq.mz.cell 1 _ rfl,hq.mz.cell 2 _ rfl,hq.mz.cell 3 _ rfl⟩
 have TK : Hid (Calls Tryz.prog 86 #[.pointer (some ⟨q,0,none⟩),.pointer (some ⟨R,0,none⟩),.int .i64 (f : Int)] w2.drew fun e w'=>∃ i : Nat,e = .returned (.int .i64 (i : Int)) /\ V (0 + 16383) [(i,ev nsR f)] w'):=by
  rw [hV] at V2 ⊢;obtain ⟨r1,r2,r3,r4⟩:=V2.lt;exact V2.call fun _ _ b _=>(take_old (fun _=>true) b V2.ar (by omega) (by omega) (by omega) hf (DepS.all _)).mono fun _ _ B=>B.more all_le
 have MT : Hid (∀ {W : World} {i : Nat},V (0 + 16383) [(i,ev nsR f)] W -> Calls Tryz.prog 87 #[.pointer (some ⟨q,0,none⟩),mt sa sb sc sd] W fun e w'=>∃ j : Nat,e = .returned (.int .i64 (j : Int)) /\ V (0 + 16383 + 44) [(j,phi sa sb sc sd),(i,ev nsR f)] w'):=fun {W i} hq=>by
  rw [hV] at hq ⊢;exact hq.call fun _ _ b _=>match_b b sa sb sc sd ha hb hc hd
 have AN : Hid (∀ {W : World} {i j : Nat},V (0 + 16383 + 44) [(j,phi sa sb sc sd),(i,ev nsR f)] W -> Calls Tryz.prog 85 #[.pointer (some ⟨q,0,none⟩),.int .i64 (i : Int),.int .i64 (j : Int)] W fun e w'=>∃ k : Nat,e = .returned (.int .i64 (k : Int)) /\ V (0 + 16383 + 44 + 16383) [(k,fun x=>ev nsR f x && phi sa sb sc sd x),(j,phi sa sb sc sd),(i,ev nsR f)] w'):=fun {W i j} hq=>by
  rw [hV] at hq ⊢;exact hq.call fun _ _ b hf=>andB_all _ _ _ _ _ b (hf (i,ev nsR f) (by simp)) (hf (j,phi sa sb sc sd) (by simp))
 have ONE : Hid (∀ {W : World} {k : Nat} {fs : List (Nat × (Env -> Bool))},V (0 + 16383 + 44 + 16383) ((k,fun x=>ev nsR f x && phi sa sb sc sd x) :: fs) W -> W.cell? ⟨q,0,none⟩ = some (.pointer (some ⟨a,0,none⟩)) /\ Calls Tryz.prog 88 #[.pointer (some ⟨a,0,none⟩),.int .i64 (k : Int)] W fun e w'=>∃ (o : Nat) (s : Bool),e = .returned (.tuple #[.int .i64 (o : Int),.bool s,.int .i64 0]) /\ Hid (LeastV (fun x=>ev nsR f x && phi sa sb sc sd x) o s) /\ w'.cell? ⟨q,1,none⟩ = some (.int .i64 0) /\ Below w.heap.size w w'):=fun {W k fs} hq=>by
  rw [hV] at hq;obtain ⟨ns,er,b,hf,b1,b2⟩:=hq.bn;have he : er = 0:=Classical.byContradiction fun h=>by have:=b2 h;omega
  subst he;have hfn:=hf _ List.mem_cons_self;have r4:=hq.lt.2.2.2;refine ⟨b.blk.cell 0 _ rfl,(one_ok b.ar hfn.1).mono fun e w' ⟨o,s,e1,e2,e3,e4⟩=>⟨o,s,e1,e2.least (hfn.2 rfl),?_,?_⟩⟩
  ·exact Bz.cell ((b.ar.outBox b.blk (by decide) (by decide)).kp e4).blk 1 _ rfl
  ·exact hq.bel.trans ((b.ar.kp_below e4).mono (by omega))
 clear hV W2 hR hf ha hb hc hd;go_wp2_with fail;go_region_held3 (fun W=>W.cell? ⟨w.heap.size,0,none⟩ = some (.int .u16 (sa : Int)) /\ W.cell? ⟨w.heap.size,1,none⟩ = some (.int .u16 (sb : Int)) /\ W.cell? ⟨w.heap.size,2,none⟩ = some (.int .u8 (sc : Int)) /\ W.cell? ⟨w.heap.size,3,none⟩ = some (.int .u8 (sd : Int))) (exact HC.out ‹_›)
  ((first
    | (go_at_call 86;refine TK.out.mono ?_;rintro e w3 ⟨i,rfl,V3⟩)
    | (go_at_call 87;refine (MT.out ‹_›).mono ?_;rintro e w4 ⟨j,rfl,V4⟩)
    | (go_at_call 85;refine (AN.out ‹_›).mono ?_;rintro e w5 ⟨k,rfl,V5⟩)))
 all_goals
  obtain ⟨c0,OC⟩:=ONE.out V5;have OC' : Hid (Calls Tryz.prog 88 #[.pointer (some ⟨a,0,none⟩),.int .i64 (k : Int)] w5 _):=OC;clear OC ONE;go_wp2_with fail;refine OC'.out.mono ?_;rintro e w6 ⟨o,s,rfl,L6,c1,D6⟩;clear OC';go_wp2_with fail;cases s
  ·skip
   refine wp_region_held_drew (S:=fun W=>W.cell? ⟨q,1,none⟩ = some (.int .i64 0)) (by kernel_rfl) c1 (fun hHeld=>?_);refine tk 0 ?_;try simp only [ly]
   refine tk 1 ?_;try simp only [ly]
   refine tk 2 ?_;try simp only [ly]
   refine tk0 3 ?_;try simp only [ly]
   refine tk0 4 ?_;try simp only [ly]
   refine tk 5 ?_;try simp only [ly]
   refine tk 6 ?_;try simp only [ly]
   refine tk0 7 ?_;try simp only [ly]
   refine tk0 8 ?_;try simp only [ly]
   refine tk0 9 ?_;try simp only [ly]
   refine tk0 10 ?_;try simp only [ly]
   refine tk0 11 ?_;try simp only [ly]
   refine tk 12 ?_;try simp only [ly]
   refine tk 13 ?_;try simp only [ly]
   refine tk 14 ?_;try simp only [ly]
   refine wpAnyH_done (by kernel_rfl) ?_ _;go_wp2_with fail;go_ret2;exact ⟨o,_,rfl,L6,D6.drew⟩
  ·skip
   refine wp_region_held_drew (S:=fun W=>W.cell? ⟨q,1,none⟩ = some (.int .i64 0)) (by kernel_rfl) c1 (fun hHeld=>?_);refine tk 0 ?_;try simp only [ly]
   refine tk 1 ?_;try simp only [ly]
   refine tk 2 ?_;try simp only [ly]
   refine tk 3 ?_;try simp only [ly]
   refine tk 4 ?_;try simp only [ly]
   refine tk 5 ?_;try simp only [ly]
   refine tk 6 ?_;try simp only [ly]
   refine tk 7 ?_;try simp only [ly]
   refine tk 8 ?_;try simp only [ly]
   refine tk 9 ?_;try simp only [ly]
   refine tk 10 ?_;try simp only [ly]
   refine tk 11 ?_;try simp only [ly]
   refine tk 12 ?_;try simp only [ly]
   refine tk 13 ?_;try simp only [ly]
   refine tk 14 ?_;try simp only [ly]
   refine wpAnyH_done (by kernel_rfl) ?_ _;go_wp2_with fail;go_ret2;exact ⟨o,_,rfl,L6,D6.drew⟩
end Go.Proofs.YtppbfikimalojaaGreat
namespace Go.Proofs.YtppbfikimalojaaGreat
open Go.RowKit Go.Maps
open Classical in
noncomputable def someR (ns : List Nd) (f sa sb sc sd : Nat) : Bool:=decide (∃ b,b < 16384 /\ (ev ns f (envOf 14 b) && phi sa sb sc sd (envOf 14 b)) = true)
theorem LeastV.some {φ : Env -> Bool} {o : Nat} {s : Bool} (h : LeastV φ o s) : s = true ↔ ∃ b,b < 16384 /\ φ (envOf 14 b) = true:=by
 rcases h with ⟨rfl,h⟩ | ⟨rfl,h1,h2,_⟩
 ·refine ⟨fun e=>(by cases e),fun ⟨b,hb,e⟩=>?_⟩;rw [h b hb] at e;cases e
 ·exact ⟨fun _=>⟨o,h1,h2⟩,fun _=>rfl⟩
theorem LeastV.someR {ns : List Nd} {f sa sb sc sd o : Nat} {s : Bool} (h : LeastV (fun x=>ev ns f x && phi sa sb sc sd x) o s) : s = someR ns f sa sb sc sd:=by
 unfold Go.Proofs.YtppbfikimalojaaGreat.someR;rw [Bool.eq_iff_iff];simpa using h.some
theorem of_anyR (c : Nat) (w : World) (hc : c < 16384) :
  Calls Tryz.prog 47 #[.int .i64 (c : Int)] w fun e w'=>e = .returned (.tuple #[pk ((c / 1024 : Nat) : Int) ((c / 64 % 16 : Nat) : Int) ((c / 8 % 8 : Nat) : Int) ((c % 8 : Nat) : Int),.int .i64 0]) /\ Below w.heap.size w w':=by
 have t1 : decide ((c : Int) < 0) = false:=by simp
 have t2 : decide ((16384 : Int) <= (c : Int)) = false:=by simp;omega
 go_enter Tryz.func47,Tryz.ntmps47;go_wp2_with fail;exact bodyPost_ret (v:=.tuple #[pk ((c / 1024 : Nat) : Int) ((c / 64 % 16 : Nat) : Int) ((c / 8 % 8 : Nat) : Int) ((c % 8 : Nat) : Int),.int .i64 0]) (by simp [results,Tryz.results47,go_sem]) rfl ⟨rfl,by go_grown⟩
theorem first1_any {bR R MR most rb cb f sa sb sc sd : Nat} {ns : List Nd} {W : World} (hA : Ar bR R MR 14 most W ns) (b0 : Bz W rb #[.pointer (some ⟨R,0,none⟩)] 33) (b1 : Bz W cb #[.int .u16 (sa : Int),.int .u16 (sb : Int),.int .u8 (sc : Int),.int .u8 (sd : Int)] 32) (hf : f < ns.length) (ha : sa < 65536) (hb : sb < 65536) (hc : sc < 256) (hd : sd < 256) :
  Calls Tryz.prog 44 #[.int .i64 (f : Int),.pointer (some ⟨rb,0,none⟩),.pointer (some ⟨cb,0,none⟩)] W fun e w'=>e = .returned (.bool (someR ns f sa sb sc sd)) /\ Below W.heap.size W w':=by
 have LA : Hid (Calls Tryz.prog 45 #[.pointer (some ⟨R,0,none⟩),.int .i64 (f : Int),mt sa sb sc sd] W fun e w'=>∃ o : Nat,e = .returned (.tuple #[.int .i64 (o : Int),.bool (someR ns f sa sb sc sd)]) /\ Below W.heap.size W w') :=
  (least_any hA hf sa sb sc sd ha hb hc hd).mono fun e w' ⟨o,s,h1,h2,h3⟩=>⟨o,by rw [h1,h2.out.someR],h3⟩
 have c0:=b0.cell 0 _ rfl;have d0:=b1.cell 0 _ rfl;have d1:=b1.cell 1 _ rfl;have d2:=b1.cell 2 _ rfl;have d3:=b1.cell 3 _ rfl;generalize someR ns f sa sb sc sd = r at *;clear hA b0 b1 hf ha hb hc hd;go_enter Tryz.func44,Tryz.ntmps44;go_wp2_with fail;with_reducible refine LA.out.mono ?_
 rintro e w2 ⟨o,rfl,hb2⟩;clear LA;go_wp2_with fail;go_ret;exact ⟨rfl,hb2⟩
theorem nine_last {a b c d e f g h i : Prop} (x : a /\ b /\ c /\ d /\ e /\ f /\ g /\ h /\ Hd i) : i:=x.2.2.2.2.2.2.2.2.out
def LeastC (φ : Env -> Bool) (o : Nat) : Prop:=o < 16384 /\ φ (envOf 14 o) = true /\ ∀ b,b < o -> φ (envOf 14 b) = false
def pkC (o : Nat) : Value:=pk ((o / 1024 : Nat) : Int) ((o / 64 % 16 : Nat) : Int) ((o / 8 % 8 : Nat) : Int) ((o % 8 : Nat) : Int)
def FirstR (n : Nat) (P : Nat -> Bool) (φ : Nat -> Env -> Bool) (v : Value) : Prop :=
 ∃ k : Nat,Found1 (n + 1) P k /\ ((k < n + 1 /\ ∃ o,LeastC (φ k) o /\ v = .tuple #[pkC o,.bool true]) ∨ (¬ k < n + 1 /\ v = .tuple #[pk 0 0 0 0,.bool false]))
end Go.Proofs.YtppbfikimalojaaGreat
namespace Go.Proofs.YtppbfikimalojaaGreat
open Go.RowKit Go.Maps
theorem codeR_pkN (c : Nat) : codeR (pkN c).s (pkN c).d (pkN c).sp (pkN c).dp = c:=by
 unfold codeR pkN;dsimp only;omega
theorem env_pkN {c : Nat} (hc : c < 16384) (v : Nat) (hv : v < 14) : envOf 14 c v = pkE (pkN c) v:=by
 have:=env_pk (pkN_ok hc) v hv;rw [codeR_pkN] at this;exact this
section
variable {ds : List Dv} {ls : List Lk} {k j : Nat} {t : Int × Int}
theorem at_pkN {c : Nat} (hc : c < 16384) : atF ds ls k t.1 t.2 (envOf 14 c) = true ↔ SetP ds ls k t (pkN c):=by
 unfold SetP;rw [L14.at t.1 t.2 (envOf 14 c) (pkE (pkN c)) (env_pkN hc)]
theorem peer_pl' (hz : netV ds ls = 0) {i : Nat} {o : Int} (h : peerF ls i o = some t) : isPl ds t.1 t.2 = true:=by
 obtain ⟨l,hl,he⟩:=peerF_of h;have hp:=(netV_links hz).2.2.2 l hl;rcases endOf_ends he with ⟨_,e⟩ | ⟨_,e⟩
 ·rw [e];exact hp.2
 ·rw [e];exact hp.1
theorem set_pl (hz : netV ds ls = 0) : ∀ (k : Nat) {p : Pk},pkOk p = true -> SetP ds ls k t p -> isPl ds t.1 t.2 = true
 | 0,p,hp,h=>by
   rw [setP_zero hz hp] at h;obtain ⟨i,d,_,_,h3,_⟩:=h;exact peer_pl' hz h3
 | k + 1,p,hp,h=>by
   rw [setP_succ hz hp] at h;rcases h with h | ⟨i,d,o,_,h3,_⟩
   ·exact set_pl hz k hp h
   ·exact peer_pl' hz h3
theorem at_out (hz : netV ds ls = 0) (h : isPl ds t.1 t.2 = false) {c : Nat} (hc : c < 16384) : atF ds ls k t.1 t.2 (envOf 14 c) = false:=by
 cases hx : atF ds ls k t.1 t.2 (envOf 14 c) with
 | false=>rfl
 | true =>
   have:=set_pl hz k (pkN_ok hc) ((at_pkN hc).1 hx);rw [h] at this;cases this
theorem L14.codes {φ ψ : Env -> Bool} (h : L14 φ) (g : L14 ψ) (e : ∀ c,c < 16384 -> φ (envOf 14 c) = ψ (envOf 14 c)) : φ = ψ:=by
 funext x
 have hx : ∀ i,i < 14 -> x i = envOf 14 (val 14 0 x) i:=fun i hi=>by
  have:=val_at (y:=x) 14 0 i (by omega) (by omega);unfold envOf;rw [<- this];rw [show 0 + 14 - 1 - i = 14 - 1 - i by omega];rfl
 rw [h x _ hx,g x _ hx];exact e _ (val_lt 14 0 x)
theorem fix_all (hz : netV ds ls = 0) (h : ∀ t c,isPl ds t.1 t.2 = true -> c < 16384 -> (SetP ds ls (k + 1) t (pkN c) ↔ SetP ds ls k t (pkN c))) (a b : Nat) (ha : a < 10) (hb : b < 4) : SetF ds ls (k + 1) a b = SetF ds ls k a b:=by
 refine (L14.set _ _ _).codes (L14.set _ _ _) fun c hc=>?_;have e : ∀ j,SetF ds ls j a b (envOf 14 c) = atF ds ls j (((a : Int),(b : Int)) : Int × Int).1 (((a : Int),(b : Int)) : Int × Int).2 (envOf 14 c):=fun j=>by
  rw [atF_nat ha hb]
 rw [e,e];cases hp : isPl ds (((a : Int),(b : Int)) : Int × Int).1 (((a : Int),(b : Int)) : Int × Int).2
 ·rw [at_out hz hp hc,at_out hz hp hc]
 ·rw [Bool.eq_iff_iff,at_pkN hc,at_pkN hc];exact h _ c hp hc
theorem cntF_same (h : ∀ a b,a < 10 -> b < 4 -> SetF ds ls (k + 1) a b = SetF ds ls k a b) : cntF ds ls (k + 1) = cntF ds ls k:=by
 unfold cntF;apply List.countP_congr;intro n hn;have hn' : n < 655360:=by simpa using hn
 rw [h _ _ (by omega) (by omega)]
theorem rounds_same (hz : netV ds ls = 0) {K : Nat} {T : Tab} (hi : KInv ds ls T k) (hf : ∀ t c,isPl ds t.1 t.2 = true -> c < 16384 -> (SetP ds ls (k + 1) t (pkN c) ↔ SetP ds ls k t (pkN c)))
  (up : ∀ j,j < K -> cntF ds ls j < cntF ds ls (j + 1)) (fix : ∀ a b,a < 10 -> b < 4 -> SetF ds ls (K + 1) a b = SetF ds ls K a b) : K = k:=by
 rcases Nat.lt_trichotomy K k with h | h | h
 ·obtain ⟨t,c,h1,hc,h2,h3⟩:=hi.new K h;exfalso;obtain ⟨a1,a2,a3,a4⟩:=pl_small (netV_links hz).1 h1;refine h3 ?_;have e : ∀ j,SetP ds ls j t (pkN c) ↔ SetF ds ls j t.1.toNat t.2.toNat (pkE (pkN c)) = true:=fun j=>by
   unfold SetP atF;rw [if_pos (by omega)]
  rw [e] at h2 ⊢;rw [<- fix _ _ (by omega) (by omega)];exact h2
 ·exact h
 ·have:=up k h;rw [cntF_same (fix_all hz hf)] at this;omega
end
theorem inB_phi (sa sb sc sd : Nat) {p : Pk} (h : pkOk p = true) : inB sa sb sc sd p.s p.d p.sp p.dp = phi sa sb sc sd (pkE p):=by
 obtain ⟨h1,h2,h3,h4⟩:=pk_bounds h;rw [phi_pk _ _ _ _ h];unfold inB hasB;rw [decide_eq_true h1.1,decide_eq_true h2.1,decide_eq_true h3.1,decide_eq_true h4.1];simp [Bool.and_assoc]
theorem phiC_at (sa sb sc sd : Nat) {c : Nat} (hc : c < 16384) : phiC sa sb sc sd c = phi sa sb sc sd (envOf 14 c):=by
 unfold phiC;rw [inB_phi _ _ _ _ (pkN_ok hc),L14.phi sa sb sc sd (envOf 14 c) (pkE (pkN c)) (env_pkN hc)]
theorem found1_uniq {n k k' : Nat} {P : Nat -> Bool} (h : Found1 n P k) (h' : Found1 n P k') : k = k':=by
 obtain ⟨a1,a2,a3⟩:=h;obtain ⟨b1,b2,b3⟩:=h';rcases Nat.lt_trichotomy k k' with e | e | e
 ·have:=b2 k e;rw [a3 k (Nat.le_refl _) (by omega)] at this;cases this
 ·exact e
 ·have:=a2 k' e;rw [b3 k' (Nat.le_refl _) (by omega)] at this;cases this
section
variable {ds : List Dv} {ls : List Lk} {k : Nat} {t : Int × Int} {T : Tab}
theorem kat (hi : KInv ds ls T k) (hp : isPl ds t.1 t.2 = true) {c j : Nat} (hc : c < 16384) (hj : j <= k) : atF ds ls j t.1 t.2 (envOf 14 c) = true ↔ (0 <= T t c /\ T t c <= (j : Int)):=by
 rw [at_pkN hc,hi.set t c j hp hc hj]
theorem round_eq (hz : netV ds ls = 0) (hi : KInv ds ls T k) {p : Pk} (hp : pkOk p = true) {v : Int} (h : RoundV k (fun i=>atF ds ls i t.1 t.2 (envOf 14 (codeN p))) v) : v = rndP ds T t p:=by
 obtain ⟨x,hx,rfl⟩:=h;have hc:=codeN_lt hp;cases hpl : isPl ds t.1 t.2
 ·have hr : rndP ds T t p = -1:=by
   unfold rndP;rw [if_neg (fun hh=>by rw [hpl] at hh;cases hh.1)]
  have hxe : x = k + 1:=found1_uniq hx ⟨Nat.le_refl _,fun i _=>at_out hz hpl hc,fun i h1 h2=>by omega⟩;rw [hr,if_neg (by omega)]
 ·have hr : rndP ds T t p = T t (codeN p):=by
   unfold rndP;rw [if_pos ⟨hpl,hp⟩]
  rw [hr];have no : ∀ i,i < k + 1 -> ¬ (0 <= T t (codeN p) /\ T t (codeN p) <= (i : Int)) -> atF ds ls i t.1 t.2 (envOf 14 (codeN p)) = false:=fun i h1 h2=>by
   cases hh : atF ds ls i t.1 t.2 (envOf 14 (codeN p)) with
   | false=>rfl
   | true=>exact absurd ((kat hi hpl hc (by omega)).1 hh) h2
  rcases hi.val t (codeN p) hpl hc with e | ⟨e1,e2⟩
  ·have hxe : x = k + 1:=found1_uniq hx ⟨Nat.le_refl _,fun i h1=>no i h1 (by omega),fun i h1 h2=>by omega⟩;rw [if_neg (by omega),e]
  ·have hxe : x = (T t (codeN p)).toNat:=found1_uniq hx ⟨by omega,fun i h1=>no i (by omega) (by omega),fun i h1 h2=>(kat hi hpl hc (by omega)).2 (by omega)⟩;rw [if_pos (by omega)];omega
theorem count_eq (hz : netV ds ls = 0) (hi : KInv ds ls T k) : cntE (atF ds ls k t.1 t.2) = cntP ds T t:=by
 unfold cntP;cases hpl : isPl ds t.1 t.2
 ·rw [if_neg (fun h=>by cases h)];rw [cntE_cnt (L14.at _ _)];have : ∀ n,n <= 16384 -> cntB (fun c=>atF ds ls k t.1 t.2 (envOf 14 c)) n = 0:=fun n=>by
   induction n with
   | zero=>exact fun _=>rfl
   | succ n ih =>
     intro hn;unfold cntB;rw [ih (by omega),at_out hz hpl (by omega)];simp
  exact this _ (Nat.le_refl _)
 ·rw [if_pos rfl];refine cnt_eq (L14.at _ _) fun c hc=>?_;rw [kat hi hpl hc (Nat.le_refl _)];rcases hi.val t c hpl hc with e | e
  ·omega
  ·exact ⟨fun _=>e,fun h=>h.1⟩
theorem some_at {n : Nat} {P : Nat -> Bool} {φ : Nat -> Env -> Bool} (hP : ∀ i,i < n -> (P i = true ↔ ∃ b,b < 16384 /\ φ i (envOf 14 b) = true)) {i : Nat} (hi : i < n) (h : ∀ b,b < 16384 -> φ i (envOf 14 b) = false) : P i = false:=by
 cases hh : P i with
 | false=>rfl
 | true =>
   obtain ⟨b,hb,e⟩:=(hP i hi).1 hh;rw [h b hb] at e;cases e
theorem bestG_get (g : Nat -> Int) (φ : Nat -> Bool) (N : Nat) : (bestG g φ N = none /\ ∀ x,x < N -> ¬ (0 <= g x /\ φ x = true)) ∨ ∃ x,bestG g φ N = some x /\ x < N /\ (0 <= g x /\ φ x = true) /\ ∀ y,y < N -> 0 <= g y /\ φ y = true -> g x < g y ∨ (g x = g y /\ x <= y):=by
 have hs:=bestG_spec g φ N;cases hb : bestG g φ N with
 | none =>
   rw [hb] at hs;exact Or.inl ⟨rfl,hs⟩
 | some y =>
   rw [hb] at hs;exact Or.inr ⟨y,rfl,hs⟩
theorem first_eq (hz : netV ds ls = 0) (hi : KInv ds ls T k) (sa sb sc sd : Nat) {P : Nat -> Bool} {φ : Nat -> Env -> Bool} {v : Value} (hP : ∀ i,i < k + 1 -> (P i = true ↔ ∃ b,b < 16384 /\ φ i (envOf 14 b) = true)) (hφ : ∀ i,i < k + 1 -> φ i = fun x=>atF ds ls i t.1 t.2 x && phi sa sb sc sd x)
  (h : FirstR k P φ v) : v = firstV (firstP ds T t sa sb sc sd):=by
 obtain ⟨x,hx,hv⟩:=h;have none_case : (∀ i b,i < k + 1 -> b < 16384 -> φ i (envOf 14 b) = false) -> v = firstV none:=fun hn=>by
  have : x = k + 1:=found1_uniq hx ⟨Nat.le_refl _,fun i h1=>some_at hP h1 (fun b hb=>hn i b h1 hb),fun i h1 h2=>by omega⟩;rcases hv with ⟨h1,_⟩ | ⟨_,h2⟩
  ·omega
  ·exact h2
 unfold firstP;cases hpl : isPl ds t.1 t.2
 ·rw [if_neg (fun h=>by cases h)];refine none_case fun i b h1 hb=>?_;rw [hφ i h1];dsimp only;rw [at_out hz hpl hb];rfl
 ·rw [if_pos rfl];rcases bestG_get (T t) (phiC sa sb sc sd) 16384 with ⟨hbe,hs⟩ | ⟨y,hbe,s1,⟨s2,s3⟩,s4⟩
  ·rw [hbe];refine none_case fun i b h1 hb=>?_;rw [hφ i h1];dsimp only;cases hh : (atF ds ls i t.1 t.2 (envOf 14 b) && phi sa sb sc sd (envOf 14 b)) with
   | false=>rfl
   | true =>
     rw [Bool.and_eq_true] at hh;exact absurd ⟨((kat hi hpl hb (by omega)).1 hh.1).1,by rw [phiC_at _ _ _ _ hb];exact hh.2⟩ (hs b hb)
  ·rw [hbe];have hle : T t y <= (k : Int):=by
    rcases hi.val t y hpl s1 with e | e
    ·omega
    ·exact e.2
   have le : ∀ i b,i < k + 1 -> b < 16384 -> (φ i (envOf 14 b) = true ↔ ((0 <= T t b /\ T t b <= (i : Int)) /\ phiC sa sb sc sd b = true)):=fun i b h1 hb=>by
    rw [hφ i h1];dsimp only;rw [Bool.and_eq_true,kat hi hpl hb (by omega),phiC_at _ _ _ _ hb]
   have hxe : x = (T t y).toNat:=found1_uniq hx ⟨by omega,fun i h1=>some_at hP (by omega) (fun b hb=>by
    cases hh : φ i (envOf 14 b) with
    | false=>rfl
    | true =>
      have h2:=(le i b (by omega) hb).1 hh;have:=s4 b hb ⟨h2.1.1,h2.2⟩;omega),fun i h1 h2=>(hP i h2).2 ⟨y,s1,(le i y h2 s1).2 ⟨⟨s2,by omega⟩,s3⟩⟩⟩
   rcases hv with ⟨h1,o,⟨o1,o2,o3⟩,rfl⟩ | ⟨h1,_⟩
   ·have p1:=(le x o h1 o1).1 o2;have p2:=s4 o o1 ⟨p1.1.1,p1.2⟩;have : o = y:=by
     by_cases e : y < o
     ·have p3:=o3 y e;rw [(le x y h1 s1).2 ⟨⟨s2,by omega⟩,s3⟩] at p3;cases p3
     ·omega
    subst this;rfl
   ·omega
end
theorem box_fourQ {w : World} {i : Nat} {x y z u : Value} {t : TypeId} (hb : Bz w i #[x,y,z,u] t) : (w.cell? ⟨i,0,none⟩ = some x /\ w.cell? ⟨i,1,none⟩ = some y /\ w.cell? ⟨i,2,none⟩ = some z /\ w.cell? ⟨i,3,none⟩ = some u) /\ (∀ j,w.frozen? ⟨i,j,none⟩ = false) /\ i < w.heap.size :=
 ⟨⟨hb.cell 0 _ rfl,hb.cell 1 _ rfl,hb.cell 2 _ rfl,hb.cell 3 _ rfl⟩,fun j=>by simp [World.frozen?,show w.heap[i]? = _ from hb],hb.lt⟩
theorem first_ok {bR R MR most n : Nat} {sl : Value} {xs : List Value} {ns : List Nd} {p q : Int} {sa sb sc sd : Nat} {s : Nat -> Nat -> Nat -> Nat} {w : World} (hRc : Rc bR R MR most sl (n + 1) xs ns w) (hs : Hd (HistN s (n + 1) xs ns)) (hn : n < 1000000) (ha : sa < 65536) (hb : sb < 65536) (hc : sc < 256) (hd : sd < 256)
  (MO : Hd (∀ i j,i <= j -> j < n + 1 -> someR ns (atN (s i) p q) sa sb sc sd = true -> someR ns (atN (s j) p q) sa sb sc sd = true)) :
  Calls Tryz.prog 13 #[.pointer (some ⟨R,0,none⟩),.agg #[.int .i64 p,.int .i64 q],mt sa sb sc sd] w fun e w'=>∃ v : Value,e = .returned v /\ Hd (FirstR n (fun i=>someR ns (atN (s i) p q) sa sb sc sd) (fun i x=>ev ns (atN (s i) p q) x && phi sa sb sc sd x) v) /\ Below w.heap.size w w':=by
 obtain ⟨w1,hw1⟩ : ∃ w1,w1 = (((w.alloc (.cells #[.pointer (some ⟨R,0,none⟩)] 33)).alloc (.cells #[.int .i64 p,.int .i64 q] 27)).alloc (.cells #[.int .u16 (sa : Int),.int .u16 (sb : Int),.int .u8 (sc : Int),.int .u8 (sd : Int)] 32)).alloc (.cells #[.int .i64 0,.int .i64 0,.int .i64 0,.int .i64 0] 29):=⟨_,rfl⟩;have D1 : Below w.heap.size w w1:=by rw [hw1];exact Below.alloc' (Below.alloc' (Below.alloc' (Below.alloc' (Below.refl _ w) _) _) _) _
 have b0 : Bz w1 w.heap.size #[.pointer (some ⟨R,0,none⟩)] 33:=by rw [hw1];exact (((Bz.new w _ _ _ rfl).al _).al _).al _
 have b1 : Bz w1 (w.heap.size + 1) #[.int .i64 p,.int .i64 q] 27:=by rw [hw1];exact ((Bz.new _ _ _ _ (by simp)).al _).al _
 have b2 : Bz w1 (w.heap.size + 1 + 1) #[.int .u16 (sa : Int),.int .u16 (sb : Int),.int .u8 (sc : Int),.int .u8 (sd : Int)] 32:=by rw [hw1];exact (Bz.new _ _ _ _ (by simp)).al _
 have b3 : Bz w1 (w.heap.size + 1 + 1 + 1) #[.int .i64 0,.int .i64 0,.int .i64 0,.int .i64 0] 29:=by rw [hw1];exact Bz.new _ _ _ _ (by simp)
 have R1:=hRc.below D1;obtain ⟨V,hV⟩ : ∃ V : World -> Prop,V = fun W=>Below w1.heap.size w1 W:=⟨_,rfl⟩;have VD : Hd (∀ W,V W -> Below w.heap.size w W):=⟨fun W h=>by rw [hV] at h;exact chain h D1⟩;have VB : Hd (∀ W W',V W -> Below W.heap.size W W' -> V W'):=⟨fun W W' h k=>by rw [hV] at h ⊢;exact chain k h⟩;have V1 : V w1:=by rw [hV];exact Below.refl _ _
 have EA : Hd (Calls Tryz.prog 40 #[.pointer (some ⟨R,0,none⟩),.agg #[.int .i64 p,.int .i64 q],.func (.func 44) #[] #[.pointer (some ⟨w.heap.size,0,none⟩),.pointer (some ⟨w.heap.size + 1 + 1,0,none⟩)]] w1 fun e w'=>∃ k : Nat,e = .returned (.tuple #[.int .i64 (k : Int),.bool (decide (k < n + 1))]) /\ Hd (Found1 (n + 1) (fun i=>someR ns (atN (s i) p q) sa sb sc sd) k) /\ V w'):=⟨by
  refine (earliest_first R1 hs hn (fun f=>someR ns f sa sb sc sd) ⟨fun f W hf hW=>first1_any (R1.below hW).ar ((hW.block _ b0.lt).trans b0) ((hW.block _ b2.lt).trans b2) hf ha hb hc hd⟩ MO).mono fun e w' ⟨k,h1,h2,h3⟩=>⟨k,h1,h2,by rw [hV];exact h3⟩⟩
 have RG : Hd (∀ k,k < n + 1 -> ∃ (g cap : Nat) (cs : Array Value),sl = .slice (some ⟨g,0,none⟩) (n + 1) cap /\ n + 1 <= cap /\ cap <= 9223372036854775807 /\ cs.size = 40 /\ (∀ W,V W -> W.rangeAt g (k * 40) cs.toList) /\ (∀ W,Calls Tryz.prog 46 #[.agg cs,.agg #[.int .i64 p,.int .i64 q]] W fun e w'=>e = .returned (.int .i64 (atN (s k) p q : Int)) /\ Below W.heap.size W w') /\ (∀ W,V W -> Calls Tryz.prog 45 #[.pointer (some ⟨R,0,none⟩),.int .i64 (atN (s k) p q : Int),mt sa sb sc sd] W fun e w'=>∃ (o : Nat) (s' : Bool),e = .returned (.tuple #[.int .i64 (o : Int),.bool s']) /\ Hid (LeastV (fun x=>ev ns (atN (s k) p q) x && phi sa sb sc sd x) o s') /\ Below W.heap.size W w')):=⟨fun k hk=>by
  obtain ⟨g,cap,h1,lg,hcap,hcm,hlen,hcell⟩:=R1.sl;unfold maxLen at hcm;refine ⟨g,cap,((xs.drop (k * 40)).take 40).toArray,h1,hcap,hcm,(hs.out.sets hk hlen).1,fun W hW j v hj=>?_,fun W=>at_any _ (s k) p q W (hs.out.sets hk hlen),fun W hW=>?_⟩
  ·have h2 : (xs.drop (k * 40))[j]? = some v:=by
    have hj' : ((xs.drop (k * 40)).take 40)[j]? = some v:=by simpa using hj
    rw [List.getElem?_take] at hj'
    split at hj'
    ·exact hj'
    ·cases hj'
   rw [List.getElem?_drop] at h2;rw [hV] at hW;exact below_cell hW (hcell _ _ h2)
  ·rw [hV] at hW;exact least_any (R1.below hW).ar (hs.out.at_lt hk R1.ar.wf p q) sa sb sc sd ha hb hc hd⟩
 have VC : Hd (∀ W,V W -> W.cell? ⟨w.heap.size,0,none⟩ = some (.pointer (some ⟨R,0,none⟩)) /\ W.cell? ⟨w.heap.size + 1,0,none⟩ = some (.int .i64 p) /\ W.cell? ⟨w.heap.size + 1,1,none⟩ = some (.int .i64 q) /\ W.cell? ⟨w.heap.size + 1 + 1,0,none⟩ = some (.int .u16 (sa : Int)) /\ W.cell? ⟨w.heap.size + 1 + 1,1,none⟩ = some (.int .u16 (sb : Int)) /\ W.cell? ⟨w.heap.size + 1 + 1,2,none⟩ = some (.int .u8 (sc : Int)) /\ W.cell? ⟨w.heap.size + 1 + 1,3,none⟩ = some (.int .u8 (sd : Int)) /\ W.cell? ⟨R,4,none⟩ = some sl):=⟨fun W h=>by
  rw [hV] at h;exact ⟨below_cell h (b0.cell 0 _ rfl),below_cell h (b1.cell 0 _ rfl),below_cell h (b1.cell 1 _ rfl),below_cell h (b2.cell 0 _ rfl),below_cell h (b2.cell 1 _ rfl),below_cell h (b2.cell 2 _ rfl),below_cell h (b2.cell 3 _ rfl),below_cell h R1.c4⟩⟩
 have VP : Hd (∀ W,V W -> Bz W (w.heap.size + 1 + 1 + 1) #[.int .i64 0,.int .i64 0,.int .i64 0,.int .i64 0] 29):=⟨fun W h=>by
  rw [hV] at h;exact (h.block _ b3.lt).trans b3⟩
 have PF : Hd (∀ (c : Nat) (W : World),c < 16384 -> Calls Tryz.prog 47 #[.int .i64 (c : Int)] W fun e w'=>e = .returned (.tuple #[pkC c,.int .i64 0]) /\ Below W.heap.size W w'):=⟨fun c W hc=>of_anyR c W hc⟩;have hR : R < w.heap.size:=hRc.lt;obtain ⟨c0,c1,c2,c3,c4,c5,c6,c7⟩:=VC.out w1 V1;clear hV R1 hRc hs MO b0 b1 b2 b3 D1;subst hw1;go_enter Tryz.func13,Tryz.ntmps13;go_wp2_with fail;refine EA.out.mono ?_;rintro e w2 ⟨k,rfl,F2,V2⟩;clear EA c0 c1 c2 c3 c4 c5 c6 c7 V1;by_cases hk : k < n + 1
 ·have t1 : decide (k < n + 1) = true:=by simp [hk]
  rw [t1];obtain ⟨g,cap,cs,rfl,hcap,hcm,h40',RG0,AT0,LE0⟩:=RG.out k hk;have h40 : Hd (cs.size = 40):=⟨h40'⟩;have AT:=Hd.mk AT0;have LE:=Hd.mk LE0;have KS : Hd (∀ W,V W -> (fun W=>W.cell? ⟨w.heap.size,0,none⟩ = some (.pointer (some ⟨R,0,none⟩)) /\ W.cell? ⟨R,4,none⟩ = some (.slice (some ⟨g,0,none⟩) (n + 1) cap) /\ W.cell? ⟨w.heap.size + 1,0,none⟩ = some (.int .i64 p) /\ W.cell? ⟨w.heap.size + 1,1,none⟩ = some (.int .i64 q) /\ W.cell? ⟨w.heap.size + 1 + 1,0,none⟩ = some (.int .u16 (sa : Int)) /\ W.cell? ⟨w.heap.size + 1 + 1,1,none⟩ = some (.int .u16 (sb : Int)) /\ W.cell? ⟨w.heap.size + 1 + 1,2,none⟩ = some (.int .u8 (sc : Int)) /\ W.cell? ⟨w.heap.size + 1 + 1,3,none⟩ = some (.int .u8 (sd : Int)) /\ Hd (W.rangeAt g (k * 40) cs.toList)) W):=⟨fun W h=>by
   obtain ⟨c0,c1,c2,c3,c4,c5,c6,c7⟩:=VC.out W h;exact ⟨c0,c7,c1,c2,c3,c4,c5,c6,⟨RG0 W h⟩⟩⟩
  clear h40' RG0 AT0 LE0 RG t1 VC;have i1 : (k : Int) < (n : Int) + 1:=by omega
  have i2 : (0 : Int) <= (k : Int):=by omega
  have FR : Hd (∀ o s',LeastV (fun x=>ev ns (atN (s k) p q) x && phi sa sb sc sd x) o s' -> o < 16384 /\ FirstR n (fun i=>someR ns (atN (s i) p q) sa sb sc sd) (fun i x=>ev ns (atN (s i) p q) x && phi sa sb sc sd x) (.tuple #[pkC o,.bool true])):=⟨fun o s' h=>by
   have hs':=h.someR;have hP:=F2.out.2.2 k (Nat.le_refl _) hk;dsimp only at hP;rw [hP] at hs';subst hs';rcases h with ⟨h1,_⟩ | ⟨_,h1,h2,h3⟩
   ·cases h1
   ·exact ⟨h1,k,F2.out,Or.inl ⟨hk,o,⟨h1,h2,h3⟩,rfl⟩⟩⟩
  obtain ⟨FRR,hFRR⟩ : ∃ F,F = FirstR n (fun i=>someR ns (atN (s i) p q) sa sb sc sd) (fun i x=>ev ns (atN (s i) p q) x && phi sa sb sc sd x):=⟨_,rfl⟩;rw [<- hFRR] at FR;generalize LeastV (fun x=>ev ns (atN (s k) p q) x && phi sa sb sc sd x) = LV at *;generalize atN (s k) p q = fk at *;clear F2;go_upto_region 4 with fail;have V3:=VB.out _ _ V2 (Below.refl _ _).drew;have S0:=KS.out _ V3;refine wp_region_held_drew (S:=(fun W=>W.cell? ⟨w.heap.size,0,none⟩ = some (.pointer (some ⟨R,0,none⟩)) /\ W.cell? ⟨R,4,none⟩ = some (.slice (some ⟨g,0,none⟩) (n + 1) cap) /\ W.cell? ⟨w.heap.size + 1,0,none⟩ = some (.int .i64 p) /\ W.cell? ⟨w.heap.size + 1,1,none⟩ = some (.int .i64 q) /\ W.cell? ⟨w.heap.size + 1 + 1,0,none⟩ = some (.int .u16 (sa : Int)) /\ W.cell? ⟨w.heap.size + 1 + 1,1,none⟩ = some (.int .u16 (sb : Int)) /\ W.cell? ⟨w.heap.size + 1 + 1,2,none⟩ = some (.int .u8 (sc : Int)) /\ W.cell? ⟨w.heap.size + 1 + 1,3,none⟩ = some (.int .u8 (sd : Int)) /\ Hd (W.rangeAt g (k * 40) cs.toList))) (by kernel_rfl) S0 (fun hHeld=>?_);refine tk 0 ?_;try simp only [ly]
  refine tk 1 ?_;try simp only [ly]
  refine tk 2 ?_;try simp only [ly]
  refine tk 3 ?_;try simp only [ly]
  refine tk 4 ?_;try simp only [ly]
  refine tk 5 ?_;try simp only [ly]
  refine tk 6 ?_;try simp only [ly]
  refine tk 8 ?_;try simp only [ly]
  refine tk 10 ?_;try simp only [ly]
  refine' wpAnyH_take (i:=7) (v:=.agg cs) rfl (by kernel_rfl) (by kernel_rfl) (by kernel_rfl) (fun _ _ _ h=>h) (yieldsIf_load_mid (by rfl) 89 _ rfl g (k * 40) rfl cs.toList _ (fun W hS=>nine_last hS) uSets rfl (by rw [Array.length_toList,h40.out];exact iSets)) ‹_› ?_;try simp only [ly]
  refine rd 9 (fun K hK=>?_);go_simp;with_reducible refine (AT.out _).mono ?_
  rintro e w4 ⟨rfl,hb4⟩;have V4:=VB.out _ _ V3 hb4;have S4:=KS.out _ V4;dsimp only;clear hHeld;refine hK.out _ _ S4 (fun hHeld=>?_);clear hK K;try simp only [ly]
  refine rd 11 (fun K hK=>?_);go_simp;with_reducible refine (LE.out _ V4).mono ?_
  rintro e w5 ⟨o,s',rfl,L5,hb5⟩;have V5:=VB.out _ _ V4 hb5;have S5:=KS.out _ V5;dsimp only;clear hHeld;refine hK.out _ _ S5 (fun hHeld=>?_);clear hK K;try simp only [ly]
  refine tk 12 ?_;try simp only [ly]
  refine tk 13 ?_;try simp only [ly]
  refine tk 14 ?_;try simp only [ly]
  refine tk 15 ?_;try simp only [ly]
  refine tk 16 ?_;try simp only [ly]
  refine wpAnyH_done (by kernel_rfl) ?_ _;obtain ⟨ho,F6'⟩:=FR.out o s' L5.out;have PO:=Hd.mk (PF.out o w5 ho);have F6:=Hd.mk F6';clear F6';clear FR LE AT KS PF hHeld S0 S4 S5;unfold pkC at PO F6;rw [show ((o / 1024 : Nat) : Int) = (o : Int) / 1024 by omega,show ((o / 64 % 16 : Nat) : Int) = (o : Int) / 64 % 16 by omega,show ((o / 8 % 8 : Nat) : Int) = (o : Int) / 8 % 8 by omega,show ((o % 8 : Nat) : Int) = (o : Int) % 8 by omega] at F6;go_wp2_with fail;refine PO.out.mono ?_;rintro e w6 ⟨rfl,hb6⟩;have V6:=VB.out _ _ V5 hb6;have B6:=VP.out _ V6;have D6:=VD.out _ V6;have l6 : w.heap.size + 1 + 1 + 1 < w6.heap.size:=B6.lt;obtain ⟨⟨q0,q1,q2,q3⟩,qf,_⟩:=box_fourQ B6;have f0:=qf 0;have f1:=qf 1;have f2:=qf 2;have f3:=qf 3;have D7:=Below.alloc' D6 (.cells #[.int .i64 ((o / 1024 : Nat) : Int),.int .i64 ((o / 64 % 16 : Nat) : Int),.int .i64 ((o / 8 % 8 : Nat) : Int),.int .i64 ((o % 8 : Nat) : Int)] 29);clear PO VP B6;go_wp2_with fail;refine bodyPost_ret (v:=.tuple #[pk ((o : Int) / 1024) ((o : Int) / 64 % 16) ((o : Int) / 8 % 8) ((o : Int) % 8),.bool true]) (by simp [results,Tryz.results13,go_sem,l6,q0,q1,q2,q3]) rfl ⟨_,rfl,by rw [<- hFRR];exact F6,?_⟩;exact Below.alloc' ((((D6.setCell (by simp;omega) _).setCell (by simp;omega) _).setCell (by simp;omega) _).setCell (by simp;omega) _) _
 ·have t1 : decide (k < n + 1) = false:=by simp [hk]
  rw [t1];have F6 : Hd (FirstR n (fun i=>someR ns (atN (s i) p q) sa sb sc sd) (fun i x=>ev ns (atN (s i) p q) x && phi sa sb sc sd x) (.tuple #[pk 0 0 0 0,.bool false])):=⟨⟨k,F2.out,Or.inr ⟨hk,rfl⟩⟩⟩;have B6:=VP.out _ V2;have D6:=VD.out _ V2;obtain ⟨⟨q0,q1,q2,q3⟩,qf,_⟩:=box_fourQ B6;have f0:=qf 0;have f1:=qf 1;have f2:=qf 2;have f3:=qf 3;clear RG VC VP PF F2 B6;go_wp2_with fail;refine bodyPost_ret (v:=.tuple #[pk 0 0 0 0,.bool false]) (by simp [results,Tryz.results13,go_sem,q0,q1,q2,q3]) rfl ⟨_,rfl,F6,?_⟩;exact (((D6.setCell (by simp;omega) _).setCell (by simp;omega) _).setCell (by simp;omega) _).setCell (by simp;omega) _
theorem dev2_any (V : Boxes -> PutS -> World -> Prop) (d : Dv) (i : Nat) (ls : List Lk) (T : Tab) (k : Int) (S nb sb kb mb b o n cap cl : Nat) (L : Option Addr) (cap' : Nat) (vb vr vt : Value) (Q0 : PutS) (w : World) (hi : (i : Int) < (n : Int)) (hk : d.kind = 2)
  (H : Hid (DV V d i ls T k S nb sb kb mb (.agg #[.slice (some ⟨b,o,none⟩) n cap,.slice L cl cap']) vr vt)) (V0 : V [] Q0 w)
  (HD : Hid (∀ bx Q W,V bx Q W -> W.cell? ⟨b,o + i * 7,none⟩ = some (.string d.name) /\ W.cell? ⟨b,o + i * 7 + 1,none⟩ = some (.int .i64 d.kind) /\ W.cell? ⟨b,o + i * 7 + 2,none⟩ = some (.int .i64 d.addr) /\ W.cell? ⟨b,o + i * 7 + 3,none⟩ = some (.int .u8 (d.pool : Int)) /\ W.cell? ⟨b,o + i * 7 + 4,none⟩ = some vb /\ W.cell? ⟨b,o + i * 7 + 5,none⟩ = some vr /\ W.cell? ⟨b,o + i * 7 + 6,none⟩ = some vt))
  (hv : (∃ A n c,vb = .slice A n c) /\ (∃ A n c,vr = .slice A n c) /\ ∃ A n c,vt = .slice A n c) :
  Calls Tryz.prog 38 #[.pointer (some ⟨S,0,none⟩),.agg #[.slice (some ⟨b,o,none⟩) n cap,.slice L cl cap'],.int .i64 (i : Int),.int .i64 k,.func (.func 36) #[] #[.pointer (some ⟨nb,0,none⟩),.pointer (some ⟨sb,0,none⟩),.pointer (some ⟨kb,0,none⟩),.pointer (some ⟨mb,0,none⟩)]] w fun e w'=>e = .returned (.tuple #[]) /\ V [] (un Q0 (sumP ((4 : Nat) : Int) (one2 d (i : Int) ls T k))) w':=by
 obtain ⟨⟨Ab,nbb,cb,rfl⟩,⟨Ar,nr,cr,rfl⟩,⟨At,nt,ct,rfl⟩⟩:=hv;have i0 : (0 : Int) <= (i : Int):=by omega
 have PO : Hid (∀ W : World,Calls Tryz.prog 19 #[.int .i64 2] W fun e w'=>e = .returned (.int .i64 4) /\ Below W.heap.size W w'):=fun W=>rports_any 2 W;have PK : Hid (∀ (c : Nat) (W : World),c < 16384 -> Calls Tryz.prog 21 #[.int .i64 (c : Int)] W fun e w'=>e = .returned (pkV (pkN c)) /\ Below W.heap.size W w'):=fun c W hc=>rpacket_any c W hc;have V1:=H.out.new V0 #[.slice (some ⟨b,o,none⟩) n cap,.slice L cl cap'] 25;obtain ⟨c0,c1,c2,c3,c4,c5,c6⟩:=HD.out _ _ _ V1;rw [hk] at c1;have N1:=(bk_new w #[.slice (some ⟨b,o,none⟩) n cap,.slice L cl cap'] 25);obtain ⟨n1,n2⟩:=N1.two;clear V0 HD N1;go_enter Tryz.func38,Tryz.ntmps38;go_upto_region 2 with fail;have V2:=H.out.new V1 #[.string d.name,.int .i64 2,.int .i64 d.addr,.int .u8 (d.pool : Int),.slice Ab nbb cb,.slice Ar nr cr,.slice At nt ct] 56;rw [World.size_alloc] at V2;clear V1 c0 c1 c2 c3 c4 c5 c6 n1 n2;generalize (w.alloc (.cells #[.slice (some ⟨b,o,none⟩) n cap,.slice L cl cap'] 25)).alloc (.cells #[.string d.name,.int .i64 2,.int .i64 d.addr,.int .u8 (d.pool : Int),.slice Ab nbb cb,.slice Ar nr cr,.slice At nt ct] 56) = w2 at *;generalize w.heap.size = y at *;obtain ⟨n1,n2⟩:=(H.out.get V2 (_,_,_) (List.mem_cons_of_mem _ List.mem_cons_self)).two;have PE:=H.out.peer V2 1;obtain ⟨p1,p2,hpl⟩ : ∃ p1 p2 : Int,placeV (peerF ls i 1) = .agg #[.int .i64 p1,.int .i64 p2]:=by cases peerF ls i 1 <;> exact ⟨_,_,rfl⟩
 rw [hpl] at PE;obtain ⟨op,hop⟩ : ∃ op,Hid ((peerF ls (i : Int) 1).isSome = op):=⟨_,rfl⟩;rw [hop.out] at PE;clear hpl;go_wp2_with fail;refine PE.mono ?_;rintro e w3 ⟨rfl,V3⟩;clear PE V2 n1 n2;have V4:=H.out.new V3 #[.int .i64 p1,.int .i64 p2] 27;clear V3;go_upto_region 3 with fail;generalize w3.alloc (.cells #[.int .i64 p1,.int .i64 p2] 27) = w4 at *;generalize w3.heap.size = z at *;obtain ⟨BX,hBX⟩ : ∃ BX : Boxes,BX = [(z,#[.int .i64 p1,.int .i64 p2],27),(y + 1,#[.string d.name,.int .i64 2,.int .i64 d.addr,.int .u8 (d.pool : Int),.slice Ab nbb cb,.slice Ar nr cr,.slice At nt ct],56),(y,#[.slice (some ⟨b,o,none⟩) n cap,.slice L cl cap'],25)]:=⟨_,rfl⟩;rw [<- hBX] at V4;have BD : Hid (∀ {Q : PutS} {W : World},V BX Q W -> W.cell? ⟨y + 1,0,none⟩ = some (.string d.name) /\ W.cell? ⟨y + 1,1,none⟩ = some (.int .i64 2) /\ W.cell? ⟨y + 1,2,none⟩ = some (.int .i64 d.addr) /\ W.cell? ⟨y + 1,3,none⟩ = some (.int .u8 (d.pool : Int)) /\ W.cell? ⟨y + 1,4,none⟩ = some (.slice Ab nbb cb) /\ W.cell? ⟨y + 1,5,none⟩ = some (.slice Ar nr cr) /\ W.cell? ⟨y + 1,6,none⟩ = some (.slice At nt ct)):=fun {Q W} hv=>by
  rw [hBX] at hv;have B:=H.out.get hv (_,_,_) (List.mem_cons_of_mem _ List.mem_cons_self);exact ⟨B.at 0,B.at 1,B.at 2,B.at 3,B.at 4,B.at 5,B.at 6⟩
 have GP : Hid (∀ {x : Nat} {s0 s1 s2 s3 : Int} {bx : Boxes} {Q : PutS} {W : World},V ((x,#[.int .i64 s0,.int .i64 s1,.int .i64 s2,.int .i64 s3],29) :: bx) Q W -> W.cell? ⟨x,0,none⟩ = some (.int .i64 s0) /\ W.cell? ⟨x,1,none⟩ = some (.int .i64 s1) /\ W.cell? ⟨x,2,none⟩ = some (.int .i64 s2) /\ W.cell? ⟨x,3,none⟩ = some (.int .i64 s3)):=fun {x s0 s1 s2 s3 bx Q W} hv=>by
  obtain ⟨a0,a1,a2,a3,_⟩:=(H.out.get hv (_,_,_) List.mem_cons_self).four;exact ⟨a0,a1,a2,a3⟩
 have BT : Hid (∀ {y' : Nat × Array Value × TypeId} {Q : PutS} {W : World},V (y' :: BX) Q W -> V BX Q W):=fun {y' Q W} hv=>H.out.less hv (fun y hy=>List.mem_cons_of_mem _ hy);obtain ⟨_,d1,_⟩:=BD.out V4;go_wp2_with fail;go_loopw [14] (fun s wr=>s = .int .i64 0 /\ V BX Q0 wr) (fun _ _=>0)
 case atStart=>exact ⟨rfl,V4⟩
 case round =>
  clear V4 d1;obtain ⟨rfl,V5⟩:=hrel;obtain ⟨_,d1,_⟩:=BD.out V5;go_wp2_with fail;go_loopw [17] (fun s wr=>∃ q : Nat,s = .int .i64 (q : Int) /\ q <= 4 /\ V BX (un Q0 (partQ (one2 d (i : Int) ls T k) q 0)) wr) (fun s _=>4 - (intOf s).toNat)
  case atStart=>exact ⟨0,rfl,by omega,by rw [un_start];exact V5⟩
  case round =>
   clear V5 d1;obtain ⟨q,rfl,hq,V6⟩:=hrel;obtain ⟨_,d1,_⟩:=BD.out V6;go_wp2_with fail;refine (PO.out _).mono ?_;rintro e w6 ⟨rfl,hb6⟩;have V7:=H.out.below V6 hb6;clear V6 hb6 d1;by_cases hqP : q < 4
   rotate_left
   ·obtain rfl : q = 4:=by omega
    have V8:=H.out.less V7 (bx':=[]) (fun y hy=>by cases hy);rw [un_end] at V8;clear V7;go_wp2_with fail
    go_returns
    exact ⟨rfl,V8⟩
   have q1 : (q : Int) < 4:=by omega
   go_wp2_with fail;go_loopw [18] (fun s wr=>∃ c : Nat,s = .int .i64 (c : Int) /\ c <= 16384 /\ V BX (un Q0 (partQ (one2 d (i : Int) ls T k) q c)) wr) (fun s _=>16384 - (intOf s).toNat)
   case atStart=>exact ⟨0,rfl,by omega,V7⟩
   case round =>
    clear V7;obtain ⟨c,rfl,hc,V8⟩:=hrel;by_cases hlt : c < 16384
    rotate_left
    ·obtain rfl : c = 16384:=by omega
     rw [un_row] at V8;go_wp2_with fail;go_roundw
     case rel=>exact ⟨q + 1,by go_num,by omega,V8⟩
     case measure=>simp [intOf];omega
    have c1 : (c : Int) < 16384:=by omega
    have WA:=H.out.was V8 (q : Int) c (by omega) (by rw [hk];show (q : Int) < 4;omega) hlt;have ST : Hid (∀ W,V BX (un (un Q0 (partQ (one2 d (i : Int) ls T k) q c)) ((one2 d (i : Int) ls T k) (q : Int) c)) W -> V BX (un Q0 (partQ (one2 d (i : Int) ls T k) q (c + 1))) W):=fun W h=>by rw [un_step hlt] at h;exact h
    generalize un Q0 (partQ (one2 d (i : Int) ls T k) q c) = Qc at *;cases hw : wasB T k ((i : Int),(q : Int)) c with
    | false =>
      rw [hw] at WA;have V9 : V BX (un Qc ((one2 d (i : Int) ls T k) (q : Int) c)) wr:=by
       rw [one2_was hw];exact V8
      clear hw;go_wp2_with fail;refine WA.mono ?_;rintro e w' ⟨rfl,rfl⟩;clear WA;go_wp2_with fail;go_roundw
      case rel=>exact ⟨c + 1,by go_num,by omega,ST.out _ V9⟩
      case measure=>simp [intOf];omega
    | true =>
      rw [hw] at WA;go_wp2_with fail;refine WA.mono ?_;rintro e w' ⟨rfl,rfl⟩;clear WA;go_wp2_with fail;refine (PK.out c _ hlt).mono ?_;rintro e w9 ⟨rfl,hb9⟩;have V9:=H.out.below V8 hb9;have VA:=H.out.new V9 #[.int .i64 (pkN c).s,.int .i64 (pkN c).d,.int .i64 (pkN c).sp,.int .i64 (pkN c).dp] 29;clear V8 V9 hb9;go_upto_region 22 with fail;generalize w9.alloc (.cells #[.int .i64 (pkN c).s,.int .i64 (pkN c).d,.int .i64 (pkN c).sp,.int .i64 (pkN c).dp] 29) = wa at *;generalize w9.heap.size = u at *;have hpc:=pkN_ok hlt;obtain ⟨_,d1,_,_,_,d5,d6⟩:=BD.out (BT.out VA);obtain ⟨x0,x1,x2,x3⟩:=GP.out VA;have OU:=H.out.out VA (pkN c).d;have YE : Hid (outB (routesOf d) (pkN c).d = true -> letsD d (pkN c) = true -> un Qc (one2 d (i : Int) ls T k (q : Int) c) = addP Qc (peerF ls (i : Int) (outN (routesOf d) (pkN c).d)) (codeN (pkN c))):=fun h1 h2=>one2_yes hw h1 h2;have NO : Hid (¬ (outB (routesOf d) (pkN c).d = true /\ letsD d (pkN c) = true) -> un Qc (one2 d (i : Int) ls T k (q : Int) c) = Qc):=fun h=>one2_no fun h'=>h h'.2;clear hw;have LE:=fun (Q : PutS) (W : World) (h : V ((u,#[.int .i64 (pkN c).s,.int .i64 (pkN c).d,.int .i64 (pkN c).sp,.int .i64 (pkN c).dp],29) :: BX) Q W)=>H.out.lets h (pkN c);have PU:=fun (Q : PutS) (W : World) (h : V ((u,#[.int .i64 (pkN c).s,.int .i64 (pkN c).d,.int .i64 (pkN c).sp,.int .i64 (pkN c).dp],29) :: BX) Q W) (o : Int)=>H.out.put h o (pkN c) hpc;have LE:=Hid.of LE;have PU:=Hid.of PU;generalize outN (routesOf d) (pkN c).d = ou at *;generalize codeN (pkN c) = cc at *;generalize letsD d (pkN c) = le at *;generalize one2 d (i : Int) ls T k (q : Int) c = R at *;generalize pkN c = pc at *;obtain ⟨a,b',c',e'⟩:=pc;dsimp only at *;cases hob : outB (routesOf d) b' with
      | false =>
        rw [hob] at OU NO;go_wp2_with fail;refine OU.mono ?_;rintro e wb ⟨rfl,VB⟩;have VZ : V ((u,#[.int .i64 a,.int .i64 b',.int .i64 c',.int .i64 e'],29) :: BX) (un Qc R) wb:=by rw [NO.out (fun h=>by cases h.1)];exact VB
        clear OU VA VB LE PU YE NO d1 d5 d6 x0 x1 x2 x3;go_wp2_with fail;go_roundw
        case rel=>exact ⟨c + 1,by go_num,by omega,ST.out _ (H.out.less VZ (fun y hy=>List.mem_cons_of_mem _ hy))⟩
        case measure=>simp [intOf];omega
      | true =>
        rw [hob] at OU NO YE;go_wp2_with fail;refine OU.mono ?_;rintro e wb ⟨rfl,VB⟩;obtain ⟨x0,x1,x2,x3⟩:=GP.out VB;obtain ⟨_,d1,_,_,_,d5,d6⟩:=BD.out (BT.out VB);clear OU VA;cases le with
        | false =>
          have NO1:=Hid.of (NO.out (fun h=>by cases h.2));clear NO YE;go_wp2_with fail;refine (LE.out _ _ VB).mono ?_;rintro e wc ⟨rfl,VC⟩;have VZ : V ((u,#[.int .i64 a,.int .i64 b',.int .i64 c',.int .i64 e'],29) :: BX) (un Qc R) wc:=by rw [NO1.out];exact VC
          clear VB VC LE PU NO1 d1 d5 d6 x0 x1 x2 x3;go_wp2_with fail;go_roundw
          case rel=>exact ⟨c + 1,by go_num,by omega,ST.out _ (H.out.less VZ (fun y hy=>List.mem_cons_of_mem _ hy))⟩
          case measure=>simp [intOf];omega
        | true =>
          have YE1 : Hid (un Qc R = addP Qc (peerF ls (i : Int) ou) cc):=by first | exact YE.out rfl rfl | exact YE.out trivial trivial | exact YE.out trivial rfl | exact YE.out rfl trivial | exact YE.out rfl | exact YE.out trivial
          clear NO YE;go_wp2_with fail;refine (LE.out _ _ VB).mono ?_;rintro e wc ⟨rfl,VC⟩;obtain ⟨x0,x1,x2,x3⟩:=GP.out VC;clear VB LE d1 d5 d6;go_wp2_with fail;refine (PU.out _ _ VC ou).mono ?_;rintro e wd ⟨rfl,VD⟩;have VZ : V ((u,#[.int .i64 a,.int .i64 b',.int .i64 c',.int .i64 e'],29) :: BX) (un Qc R) wd:=by rw [YE1.out];exact VD
          clear VC VD PU YE1 x0 x1 x2 x3;go_wp2_with fail;go_roundw
          case rel=>exact ⟨c + 1,by go_num,by omega,ST.out _ (H.out.less VZ (fun y hy=>List.mem_cons_of_mem _ hy))⟩
          case measure=>simp [intOf];omega
theorem dev3_any (V : Boxes -> PutS -> World -> Prop) (d : Dv) (i : Nat) (ls : List Lk) (T : Tab) (k : Int) (S nb sb kb mb b o n cap cl : Nat) (L : Option Addr) (cap' : Nat) (vb vr vt : Value) (Q0 : PutS) (w : World) (hi : (i : Int) < (n : Int)) (hk : d.kind = 3)
  (H : Hid (DV V d i ls T k S nb sb kb mb (.agg #[.slice (some ⟨b,o,none⟩) n cap,.slice L cl cap']) vr vt)) (V0 : V [] Q0 w)
  (HD : Hid (∀ bx Q W,V bx Q W -> W.cell? ⟨b,o + i * 7,none⟩ = some (.string d.name) /\ W.cell? ⟨b,o + i * 7 + 1,none⟩ = some (.int .i64 d.kind) /\ W.cell? ⟨b,o + i * 7 + 2,none⟩ = some (.int .i64 d.addr) /\ W.cell? ⟨b,o + i * 7 + 3,none⟩ = some (.int .u8 (d.pool : Int)) /\ W.cell? ⟨b,o + i * 7 + 4,none⟩ = some vb /\ W.cell? ⟨b,o + i * 7 + 5,none⟩ = some vr /\ W.cell? ⟨b,o + i * 7 + 6,none⟩ = some vt))
  (hv : (∃ A n c,vb = .slice A n c) /\ (∃ A n c,vr = .slice A n c) /\ ∃ A n c,vt = .slice A n c) :
  Calls Tryz.prog 38 #[.pointer (some ⟨S,0,none⟩),.agg #[.slice (some ⟨b,o,none⟩) n cap,.slice L cl cap'],.int .i64 (i : Int),.int .i64 k,.func (.func 36) #[] #[.pointer (some ⟨nb,0,none⟩),.pointer (some ⟨sb,0,none⟩),.pointer (some ⟨kb,0,none⟩),.pointer (some ⟨mb,0,none⟩)]] w fun e w'=>e = .returned (.tuple #[]) /\ V [] (un Q0 (sumP ((2 : Nat) : Int) (one3 d (i : Int) ls T k))) w':=by
 obtain ⟨⟨Ab,nbb,cb,rfl⟩,⟨Ar,nr,cr,rfl⟩,⟨At,nt,ct,rfl⟩⟩:=hv;have i0 : (0 : Int) <= (i : Int):=by omega
 have PO : Hid (∀ W : World,Calls Tryz.prog 19 #[.int .i64 3] W fun e w'=>e = .returned (.int .i64 2) /\ Below W.heap.size W w'):=fun W=>rports_any 3 W;have PK : Hid (∀ (c : Nat) (W : World),c < 16384 -> Calls Tryz.prog 21 #[.int .i64 (c : Int)] W fun e w'=>e = .returned (pkV (pkN c)) /\ Below W.heap.size W w'):=fun c W hc=>rpacket_any c W hc;have V1:=H.out.new V0 #[.slice (some ⟨b,o,none⟩) n cap,.slice L cl cap'] 25;obtain ⟨c0,c1,c2,c3,c4,c5,c6⟩:=HD.out _ _ _ V1;rw [hk] at c1;have N1:=(bk_new w #[.slice (some ⟨b,o,none⟩) n cap,.slice L cl cap'] 25);obtain ⟨n1,n2⟩:=N1.two;clear V0 HD N1;go_enter Tryz.func38,Tryz.ntmps38;go_upto_region 2 with fail;have V2:=H.out.new V1 #[.string d.name,.int .i64 3,.int .i64 d.addr,.int .u8 (d.pool : Int),.slice Ab nbb cb,.slice Ar nr cr,.slice At nt ct] 56;rw [World.size_alloc] at V2;clear V1 c0 c1 c2 c3 c4 c5 c6 n1 n2;generalize (w.alloc (.cells #[.slice (some ⟨b,o,none⟩) n cap,.slice L cl cap'] 25)).alloc (.cells #[.string d.name,.int .i64 3,.int .i64 d.addr,.int .u8 (d.pool : Int),.slice Ab nbb cb,.slice Ar nr cr,.slice At nt ct] 56) = w2 at *;generalize w.heap.size = y at *;obtain ⟨n1,n2⟩:=(H.out.get V2 (_,_,_) (List.mem_cons_of_mem _ List.mem_cons_self)).two;have PE:=H.out.peer V2 1;obtain ⟨p1,p2,hpl⟩ : ∃ p1 p2 : Int,placeV (peerF ls i 1) = .agg #[.int .i64 p1,.int .i64 p2]:=by cases peerF ls i 1 <;> exact ⟨_,_,rfl⟩
 rw [hpl] at PE;obtain ⟨op,hop⟩ : ∃ op,Hid ((peerF ls (i : Int) 1).isSome = op):=⟨_,rfl⟩;rw [hop.out] at PE;clear hpl;go_wp2_with fail;refine PE.mono ?_;rintro e w3 ⟨rfl,V3⟩;clear PE V2 n1 n2;have V4:=H.out.new V3 #[.int .i64 p1,.int .i64 p2] 27;clear V3;go_upto_region 3 with fail;generalize w3.alloc (.cells #[.int .i64 p1,.int .i64 p2] 27) = w4 at *;generalize w3.heap.size = z at *;obtain ⟨BX,hBX⟩ : ∃ BX : Boxes,BX = [(z,#[.int .i64 p1,.int .i64 p2],27),(y + 1,#[.string d.name,.int .i64 3,.int .i64 d.addr,.int .u8 (d.pool : Int),.slice Ab nbb cb,.slice Ar nr cr,.slice At nt ct],56),(y,#[.slice (some ⟨b,o,none⟩) n cap,.slice L cl cap'],25)]:=⟨_,rfl⟩;rw [<- hBX] at V4;have BD : Hid (∀ {Q : PutS} {W : World},V BX Q W -> W.cell? ⟨y + 1,0,none⟩ = some (.string d.name) /\ W.cell? ⟨y + 1,1,none⟩ = some (.int .i64 3) /\ W.cell? ⟨y + 1,2,none⟩ = some (.int .i64 d.addr) /\ W.cell? ⟨y + 1,3,none⟩ = some (.int .u8 (d.pool : Int)) /\ W.cell? ⟨y + 1,4,none⟩ = some (.slice Ab nbb cb) /\ W.cell? ⟨y + 1,5,none⟩ = some (.slice Ar nr cr) /\ W.cell? ⟨y + 1,6,none⟩ = some (.slice At nt ct)):=fun {Q W} hv=>by
  rw [hBX] at hv;have B:=H.out.get hv (_,_,_) (List.mem_cons_of_mem _ List.mem_cons_self);exact ⟨B.at 0,B.at 1,B.at 2,B.at 3,B.at 4,B.at 5,B.at 6⟩
 have GP : Hid (∀ {x : Nat} {s0 s1 s2 s3 : Int} {bx : Boxes} {Q : PutS} {W : World},V ((x,#[.int .i64 s0,.int .i64 s1,.int .i64 s2,.int .i64 s3],29) :: bx) Q W -> W.cell? ⟨x,0,none⟩ = some (.int .i64 s0) /\ W.cell? ⟨x,1,none⟩ = some (.int .i64 s1) /\ W.cell? ⟨x,2,none⟩ = some (.int .i64 s2) /\ W.cell? ⟨x,3,none⟩ = some (.int .i64 s3)):=fun {x s0 s1 s2 s3 bx Q W} hv=>by
  obtain ⟨a0,a1,a2,a3,_⟩:=(H.out.get hv (_,_,_) List.mem_cons_self).four;exact ⟨a0,a1,a2,a3⟩
 have BT : Hid (∀ {y' : Nat × Array Value × TypeId} {Q : PutS} {W : World},V (y' :: BX) Q W -> V BX Q W):=fun {y' Q W} hv=>H.out.less hv (fun y hy=>List.mem_cons_of_mem _ hy);obtain ⟨_,d1,_⟩:=BD.out V4;go_wp2_with fail;go_loopw [14] (fun s wr=>s = .int .i64 0 /\ V BX Q0 wr) (fun _ _=>0)
 case atStart=>exact ⟨rfl,V4⟩
 case round =>
  clear V4 d1;obtain ⟨rfl,V5⟩:=hrel;obtain ⟨_,d1,_⟩:=BD.out V5;go_wp2_with fail;go_loopw [17] (fun s wr=>∃ q : Nat,s = .int .i64 (q : Int) /\ q <= 2 /\ V BX (un Q0 (partQ (one3 d (i : Int) ls T k) q 0)) wr) (fun s _=>2 - (intOf s).toNat)
  case atStart=>exact ⟨0,rfl,by omega,by rw [un_start];exact V5⟩
  case round =>
   clear V5 d1;obtain ⟨q,rfl,hq,V6⟩:=hrel;obtain ⟨_,d1,_⟩:=BD.out V6;go_wp2_with fail;refine (PO.out _).mono ?_;rintro e w6 ⟨rfl,hb6⟩;have V7:=H.out.below V6 hb6;clear V6 hb6 d1;by_cases hqP : q < 2
   rotate_left
   ·obtain rfl : q = 2:=by omega
    have V8:=H.out.less V7 (bx':=[]) (fun y hy=>by cases hy);rw [un_end] at V8;clear V7;go_wp2_with fail
    go_returns
    exact ⟨rfl,V8⟩
   have q1 : (q : Int) < 2:=by omega
   go_wp2_with fail;go_loopw [18] (fun s wr=>∃ c : Nat,s = .int .i64 (c : Int) /\ c <= 16384 /\ V BX (un Q0 (partQ (one3 d (i : Int) ls T k) q c)) wr) (fun s _=>16384 - (intOf s).toNat)
   case atStart=>exact ⟨0,rfl,by omega,V7⟩
   case round =>
    clear V7;obtain ⟨c,rfl,hc,V8⟩:=hrel;by_cases hlt : c < 16384
    rotate_left
    ·obtain rfl : c = 16384:=by omega
     rw [un_row] at V8;go_wp2_with fail;go_roundw
     case rel=>exact ⟨q + 1,by go_num,by omega,V8⟩
     case measure=>simp [intOf];omega
    have c1 : (c : Int) < 16384:=by omega
    have WA:=H.out.was V8 (q : Int) c (by omega) (by rw [hk];show (q : Int) < 2;omega) hlt;have ST : Hid (∀ W,V BX (un (un Q0 (partQ (one3 d (i : Int) ls T k) q c)) ((one3 d (i : Int) ls T k) (q : Int) c)) W -> V BX (un Q0 (partQ (one3 d (i : Int) ls T k) q (c + 1))) W):=fun W h=>by rw [un_step hlt] at h;exact h
    generalize un Q0 (partQ (one3 d (i : Int) ls T k) q c) = Qc at *;cases hw : wasB T k ((i : Int),(q : Int)) c with
    | false =>
      rw [hw] at WA;have V9 : V BX (un Qc ((one3 d (i : Int) ls T k) (q : Int) c)) wr:=by
       rw [one3_was hw];exact V8
      clear hw;go_wp2_with fail;refine WA.mono ?_;rintro e w' ⟨rfl,rfl⟩;clear WA;go_wp2_with fail;go_roundw
      case rel=>exact ⟨c + 1,by go_num,by omega,ST.out _ V9⟩
      case measure=>simp [intOf];omega
    | true =>
      rw [hw] at WA;go_wp2_with fail;refine WA.mono ?_;rintro e w' ⟨rfl,rfl⟩;clear WA;go_wp2_with fail;refine (PK.out c _ hlt).mono ?_;rintro e w9 ⟨rfl,hb9⟩;have V9:=H.out.below V8 hb9;have VA:=H.out.new V9 #[.int .i64 (pkN c).s,.int .i64 (pkN c).d,.int .i64 (pkN c).sp,.int .i64 (pkN c).dp] 29;clear V8 V9 hb9;go_upto_region 22 with fail;generalize w9.alloc (.cells #[.int .i64 (pkN c).s,.int .i64 (pkN c).d,.int .i64 (pkN c).sp,.int .i64 (pkN c).dp] 29) = wa at *;generalize w9.heap.size = u at *;have hpc:=pkN_ok hlt;obtain ⟨_,d1,_,_,_,d5,d6⟩:=BD.out (BT.out VA);clear d6;have hfc:=flip_ok hpc;have BA : Hid (∀ W : World,Calls Tryz.prog 76 #[pkV (pkN c)] W fun e w'=>e = .returned (pkV (flipP (pkN c))) /\ Below W.heap.size W w'):=fun W=>back_any (pkN c) W;have RC : Hid (∀ W : World,Calls Tryz.prog 37 #[pkV (flipP (pkN c))] W fun e w'=>e = .returned (.int .i64 (codeN (flipP (pkN c)) : Int)) /\ Below W.heap.size W w'):=fun W=>rcode_any _ W hfc;have hcl:=codeN_lt hfc;have LB : Hid (∀ {bx : Boxes} {Q : PutS} {W : World},V bx Q W -> Calls Tryz.prog 75 #[.slice Ar nr cr,pkV (flipP (pkN c))] W fun e w'=>e = .returned (.bool (letsD d (flipP (pkN c)))) /\ V bx Q w'):=fun h=>H.out.lets h _;have LE : Hid (∀ {bx : Boxes} {Q : PutS} {W : World},V bx Q W -> Calls Tryz.prog 75 #[.slice Ar nr cr,pkV (pkN c)] W fun e w'=>e = .returned (.bool (letsD d (pkN c))) /\ V bx Q w'):=fun h=>H.out.lets h _;have PU : Hid (∀ {bx : Boxes} {Q : PutS} {W : World} (o : Int),V bx Q W -> Calls Tryz.prog 36 #[.int .i64 (i : Int),.int .i64 o,pkV (pkN c),.pointer (some ⟨nb,0,none⟩),.pointer (some ⟨sb,0,none⟩),.pointer (some ⟨kb,0,none⟩),.pointer (some ⟨mb,0,none⟩)] W fun e w'=>e = .returned (.tuple #[]) /\ V bx (addP Q (peerF ls (i : Int) o) (codeN (pkN c))) w'):=fun o h=>H.out.put h o _ hpc;have W0 : Hid (∀ {bx : Boxes} {Q : PutS} {W : World},V bx Q W -> Calls Tryz.prog 73 #[.pointer (some ⟨S,0,none⟩),.int .i64 (i : Int),.int .i64 0,.int .i64 (codeN (flipP (pkN c)) : Int),.int .i64 k] W fun e w'=>e = .returned (.bool (wasB T k ((i : Int),0) (codeN (flipP (pkN c))))) /\ w' = W):=fun h=>H.out.was h 0 _ (by omega) (by rw [hk];show (0 : Int) < 2;omega) hcl;obtain hqe | hqe : (q : Int) = 0 ∨ (q : Int) = 1:=by omega
      ·have f0 : ((q : Int) == 0) = true:=by simpa using hqe
       have f1 : ((q : Int) == 1) = false:=by simp [hqe]
       have YE : Hid (letsD d (pkN c) = true -> un Qc (one3 d (i : Int) ls T k (q : Int) c) = addP Qc (peerF ls (i : Int) 1) (codeN (pkN c))):=fun h=>by rw [hqe] at hw ⊢;exact one3_yes0 hw h
       have NO : Hid (letsD d (pkN c) = false -> un Qc (one3 d (i : Int) ls T k (q : Int) c) = Qc):=fun h=>by rw [hqe];exact one3_no0 h
       clear hqe;clear hw LB W0 RC;generalize letsD d (pkN c) = le at *;generalize codeN (pkN c) = cc at *;have hfl : flipP (pkN c) = ⟨(pkN c).d,(pkN c).s,(pkN c).dp,(pkN c).sp⟩:=rfl;rw [hfl] at BA;clear hfl hfc hcl;generalize pkN c = pc at *;generalize one3 d (i : Int) ls T k (q : Int) c = R at *;obtain ⟨a,b',c',e'⟩:=pc;dsimp only at *;obtain ⟨x0,x1,x2,x3⟩:=GP.out VA;cases le with
       | false =>
         have NO1:=Hid.of (NO.out rfl);clear NO YE;go_wp2_with fail;refine (LE.out VA).mono ?_;rintro e wb ⟨rfl,VB⟩;have VW : V ((u,#[.int .i64 a,.int .i64 b',.int .i64 c',.int .i64 e'],29) :: BX) (un Qc R) wb:=by rw [NO1.out];exact VB
         clear VA VB LE PU NO1 d1 d5 x0 x1 x2 x3;obtain ⟨x0,x1,x2,x3⟩:=GP.out VW;go_wp2_with fail;refine (BA.out _).mono ?_;rintro e wf ⟨rfl,hbf⟩;have VF:=H.out.below VW hbf;have VG:=H.out.new VF #[.int .i64 b',.int .i64 a,.int .i64 e',.int .i64 c'] 29;clear VW VF hbf x0 x1 x2 x3;go_upto_region 31 with fail;generalize wf.alloc (.cells #[.int .i64 b',.int .i64 a,.int .i64 e',.int .i64 c'] 29) = wg at *;generalize wf.heap.size = v at *;have VZ:=H.out.less VG (bx':=((u,#[.int .i64 a,.int .i64 b',.int .i64 c',.int .i64 e'],29) :: BX)) (fun y hy=>List.mem_cons_of_mem _ hy);clear VG;go_wp2_with fail;go_roundw
         case rel=>exact ⟨c + 1,by go_num,by omega,ST.out _ (H.out.less VZ (fun y hy=>List.mem_cons_of_mem _ hy))⟩
         case measure=>simp [intOf];omega
       | true =>
         have YE1:=Hid.of (YE.out rfl);clear NO YE;go_wp2_with fail;refine (LE.out VA).mono ?_;rintro e wb ⟨rfl,VB⟩;obtain ⟨x0,x1,x2,x3⟩:=GP.out VB;clear VA LE d1 d5;go_wp2_with fail;refine (PU.out 1 VB).mono ?_;rintro e wc ⟨rfl,VC⟩;have VW : V ((u,#[.int .i64 a,.int .i64 b',.int .i64 c',.int .i64 e'],29) :: BX) (un Qc R) wc:=by rw [YE1.out];exact VC
         clear VB VC PU YE1 x0 x1 x2 x3;obtain ⟨x0,x1,x2,x3⟩:=GP.out VW;go_wp2_with fail;refine (BA.out _).mono ?_;rintro e wf ⟨rfl,hbf⟩;have VF:=H.out.below VW hbf;have VG:=H.out.new VF #[.int .i64 b',.int .i64 a,.int .i64 e',.int .i64 c'] 29;clear VW VF hbf x0 x1 x2 x3;go_upto_region 31 with fail;generalize wf.alloc (.cells #[.int .i64 b',.int .i64 a,.int .i64 e',.int .i64 c'] 29) = wg at *;generalize wf.heap.size = v at *;have VZ:=H.out.less VG (bx':=((u,#[.int .i64 a,.int .i64 b',.int .i64 c',.int .i64 e'],29) :: BX)) (fun y hy=>List.mem_cons_of_mem _ hy);clear VG;go_wp2_with fail;go_roundw
         case rel=>exact ⟨c + 1,by go_num,by omega,ST.out _ (H.out.less VZ (fun y hy=>List.mem_cons_of_mem _ hy))⟩
         case measure=>simp [intOf];omega
      ·have f0 : ((q : Int) == 0) = false:=by simp [hqe]
       have f1 : ((q : Int) == 1) = true:=by simpa using hqe
       have YE : Hid (op = true -> wasB T k ((i : Int),0) (codeN (flipP (pkN c))) = true -> letsD d (flipP (pkN c)) = true -> un Qc (one3 d (i : Int) ls T k (q : Int) c) = addP Qc (peerF ls (i : Int) 0) (codeN (pkN c))):=fun h1 h2 h3=>by rw [hqe] at hw ⊢;exact one3_yes1 hw (hop.out.trans h1) h2 h3
       have NO : Hid (¬ (op = true /\ wasB T k ((i : Int),0) (codeN (flipP (pkN c))) = true /\ letsD d (flipP (pkN c)) = true) -> un Qc (one3 d (i : Int) ls T k (q : Int) c) = Qc):=fun h=>by rw [hqe];exact one3_no1 fun ⟨h1,h2,h3⟩=>h ⟨hop.out.symm.trans h1,h2,h3⟩
       clear hw LE hqe;generalize wasB T k ((i : Int),0) (codeN (flipP (pkN c))) = ww at *;generalize letsD d (flipP (pkN c)) = le at *;generalize codeN (pkN c) = cc at *;generalize codeN (flipP (pkN c)) = cf at *;have hfl : flipP (pkN c) = ⟨(pkN c).d,(pkN c).s,(pkN c).dp,(pkN c).sp⟩:=rfl;rw [hfl] at BA RC LB;clear hfl hfc hcl;generalize pkN c = pc at *;generalize one3 d (i : Int) ls T k (q : Int) c = R at *;obtain ⟨a,b',c',e'⟩:=pc;dsimp only at *;have VW:=VA;clear VA;obtain ⟨x0,x1,x2,x3⟩:=GP.out VW;go_wp2_with fail;refine (BA.out _).mono ?_;rintro e wf ⟨rfl,hbf⟩;have VF:=H.out.below VW hbf;have VG:=H.out.new VF #[.int .i64 b',.int .i64 a,.int .i64 e',.int .i64 c'] 29;clear VW VF hbf x0 x1 x2 x3;go_upto_region 31 with fail;generalize wf.alloc (.cells #[.int .i64 b',.int .i64 a,.int .i64 e',.int .i64 c'] 29) = wg at *;generalize wf.heap.size = v at *;obtain ⟨x0,x1,x2,x3⟩:=GP.out VG;cases op with
       | false =>
         have VZ : V ((u,#[.int .i64 a,.int .i64 b',.int .i64 c',.int .i64 e'],29) :: BX) (un Qc R) wg:=by rw [NO.out (fun h=>by cases h.1)];exact H.out.less VG (fun y hy=>List.mem_cons_of_mem _ hy)
         clear VG d1 d5 YE NO PU LB;go_wp2_with fail;go_roundw
         case rel=>exact ⟨c + 1,by go_num,by omega,ST.out _ (H.out.less VZ (fun y hy=>List.mem_cons_of_mem _ hy))⟩
         case measure=>simp [intOf];omega
       | true =>
         cases ww with
         | false =>
           have NO1:=Hid.of (NO.out (fun h=>by cases h.2.1));clear NO YE;go_wp2_with fail;refine (RC.out _).mono ?_;rintro e wh ⟨rfl,hbh⟩;have VH:=H.out.below VG hbh;clear VG hbh;go_wp2_with fail;refine (W0.out VH).mono ?_;rintro e wi ⟨rfl,rfl⟩;have VZ : V ((u,#[.int .i64 a,.int .i64 b',.int .i64 c',.int .i64 e'],29) :: BX) (un Qc R) wi:=by rw [NO1.out];exact H.out.less VH (fun y hy=>List.mem_cons_of_mem _ hy)
           clear VH d1 d5 NO1 PU LB x0 x1 x2 x3;go_wp2_with fail;go_roundw
           case rel=>exact ⟨c + 1,by go_num,by omega,ST.out _ (H.out.less VZ (fun y hy=>List.mem_cons_of_mem _ hy))⟩
           case measure=>simp [intOf];omega
         | true =>
           have NO1 : Hid (le = false -> un Qc R = Qc):=fun h=>NO.out (fun h'=>by rw [h] at h';cases h'.2.2);have YE1 : Hid (le = true -> un Qc R = addP Qc (peerF ls (i : Int) 0) cc):=fun h=>YE.out rfl rfl h;clear NO YE;go_wp2_with fail;refine (RC.out _).mono ?_;rintro e wh ⟨rfl,hbh⟩;have VH:=H.out.below VG hbh;clear VG hbh;go_wp2_with fail;refine (W0.out VH).mono ?_;rintro e wi ⟨rfl,rfl⟩;obtain ⟨x0,x1,x2,x3⟩:=GP.out VH;obtain ⟨_,d1,_,_,_,d5,_⟩:=BD.out (H.out.less VH (fun y hy=>List.mem_cons_of_mem _ (List.mem_cons_of_mem _ hy)));cases le with
           | false =>
             have NO2:=Hid.of (NO1.out rfl);clear NO1 YE1;go_wp2_with fail;refine (LB.out VH).mono ?_;rintro e wj ⟨rfl,VJ⟩;have VZ : V ((u,#[.int .i64 a,.int .i64 b',.int .i64 c',.int .i64 e'],29) :: BX) (un Qc R) wj:=by rw [NO2.out];exact H.out.less VJ (fun y hy=>List.mem_cons_of_mem _ hy)
             clear VH VJ d1 d5 NO2 PU LB x0 x1 x2 x3;go_wp2_with fail;go_roundw
             case rel=>exact ⟨c + 1,by go_num,by omega,ST.out _ (H.out.less VZ (fun y hy=>List.mem_cons_of_mem _ hy))⟩
             case measure=>simp [intOf];omega
           | true =>
             have YE2:=Hid.of (YE1.out rfl);clear NO1 YE1;go_wp2_with fail;refine (LB.out VH).mono ?_;rintro e wj ⟨rfl,VJ⟩;have VK:=H.out.less VJ (bx':=((u,#[.int .i64 a,.int .i64 b',.int .i64 c',.int .i64 e'],29) :: BX)) (fun y hy=>List.mem_cons_of_mem _ hy);obtain ⟨x0,x1,x2,x3⟩:=GP.out VK;clear VH VJ d1 d5 LB;go_wp2_with fail;refine (PU.out 0 VK).mono ?_;rintro e wl ⟨rfl,VL⟩;have VZ : V ((u,#[.int .i64 a,.int .i64 b',.int .i64 c',.int .i64 e'],29) :: BX) (un Qc R) wl:=by rw [YE2.out];exact VL
             clear VK VL PU YE2 x0 x1 x2 x3;go_wp2_with fail;go_roundw
             case rel=>exact ⟨c + 1,by go_num,by omega,ST.out _ (H.out.less VZ (fun y hy=>List.mem_cons_of_mem _ hy))⟩
             case measure=>simp [intOf];omega
section
variable {d : Dv} {i : Int} {ls : List Lk} {T : Tab} {k : Int} {Q : PutS} {q : Int} {c : Nat}
theorem one5_was (h : wasB T k (i,q) c = false) : un Q (one5 d i ls T k q c) = Q:=un_no fun _ _ ⟨h1,_⟩=>by rw [h] at h1;cases h1
theorem one5_far (h1 : wasB T k (i,0) c = true) (h2 : ¬ (pkN c).d = d.addr) : un Q (one5 d i ls T k 0 c) = addP Q (peerF ls i 1) (codeN (pkN c)):=by
 rw [codeN_pkN];refine un_one fun t c'=>⟨fun ⟨_,b⟩=>?_,fun ⟨a,b⟩=>⟨h1,Or.inl ⟨Or.inr h2,a,b⟩⟩⟩;rcases b with ⟨_,a,b⟩ | ⟨_,b,_⟩ | ⟨b,_⟩
 ·exact ⟨a,b⟩
 ·exact absurd b h2
 ·omega
def backP (d : Dv) (i : Int) (ls : List Lk) (p : Pk) (x : Nat) : PutS:=fun t c'=>∃ (j : Nat) (b : Int),j < x /\ d.backs[j]? = some b /\ peerF ls i 1 = some t /\ c' = codeN ⟨p.s,b,p.sp,p.dp⟩
theorem back_start {p : Pk} : un Q (backP d i ls p 0) = Q:=un_no fun _ _ ⟨j,b,h,_⟩=>by omega
theorem back_step {p : Pk} {x : Nat} {b : Int} (h : d.backs[x]? = some b) : addP (un Q (backP d i ls p x)) (peerF ls i 1) (codeN ⟨p.s,b,p.sp,p.dp⟩) = un Q (backP d i ls p (x + 1)):=by
 funext t c'
 refine propext ⟨?_,?_⟩
 ·rintro ((h1 | ⟨j,b',h1,h2,h3,h4⟩) | ⟨h1,h2⟩)
  ·exact Or.inl h1
  ·exact Or.inr ⟨j,b',by omega,h2,h3,h4⟩
  ·exact Or.inr ⟨x,b,by omega,h,h1,h2⟩
 ·rintro (h1 | ⟨j,b',h1,h2,h3,h4⟩)
  ·exact Or.inl (Or.inl h1)
  ·by_cases e : j = x
   ·subst e;rw [h] at h2;cases h2;exact Or.inr ⟨h3,h4⟩
   ·exact Or.inl (Or.inr ⟨j,b',by omega,h2,h3,h4⟩)
theorem one5_near (h1 : wasB T k (i,0) c = true) (h2 : (pkN c).d = d.addr) : un Q (backP d i ls (pkN c) d.backs.length) = un Q (one5 d i ls T k 0 c):=by
 have : backP d i ls (pkN c) d.backs.length = one5 d i ls T k 0 c:=by
  funext t c'
  refine propext ⟨fun ⟨j,b,_,a2,a3,a4⟩=>⟨h1,Or.inr (Or.inl ⟨rfl,h2,b,List.mem_of_getElem? a2,a3,a4⟩)⟩,fun ⟨_,a⟩=>?_⟩;rcases a with ⟨a | a,_⟩ | ⟨_,_,b,a2,a3,a4⟩ | ⟨a,_⟩
  ·omega
  ·exact absurd h2 a
  ·obtain ⟨j,hj,e⟩:=List.mem_iff_getElem.1 a2;exact ⟨j,b,hj,by rw [List.getElem?_eq_getElem hj,e],a3,a4⟩
  ·omega
 rw [this]
def ansB (d : Dv) (i : Int) (ls : List Lk) (T : Tab) (k : Int) (p : Pk) : Bool:=(peerF ls i 1).isSome && (d.backs.any (fun y=>y == p.s) && wasB T k (i,0) (codeN ⟨p.d,d.addr,p.dp,p.sp⟩))
theorem mem_any {l : List Int} {x : Int} : x ∈ l ↔ l.any (fun y=>y == x) = true:=by simp
theorem one5_back (h1 : wasB T k (i,1) c = true) : un Q (one5 d i ls T k 1 c) = if ansB d i ls T k (pkN c) = true then addP (addP Q (peerF ls i 0) (codeN (pkN c))) (peerF ls i 0) (codeN ⟨d.addr,(pkN c).d,(pkN c).sp,(pkN c).dp⟩) else addP Q (peerF ls i 0) (codeN (pkN c)):=by
 rw [codeN_pkN];have e : (1 : Int) - 1 = 0:=rfl;by_cases ha : ansB d i ls T k (pkN c) = true
 ·rw [if_pos ha];have ha':=ha;unfold ansB at ha';simp only [Bool.and_eq_true] at ha';obtain ⟨a1,a2,a3⟩:=ha'
  funext t c'
  refine propext ⟨?_,?_⟩
  ·rintro (h | ⟨_,⟨_,h2,h3⟩ | ⟨h2,_⟩ | ⟨_,_,_,_,h2,h3⟩⟩)
   ·exact Or.inl (Or.inl h)
   ·rw [e] at h2;exact Or.inl (Or.inr ⟨h2,h3⟩)
   ·omega
   ·exact Or.inr ⟨h2,h3⟩
  ·rintro ((h | ⟨h2,h3⟩) | ⟨h2,h3⟩)
   ·exact Or.inl h
   ·exact Or.inr ⟨h1,Or.inl ⟨Or.inl rfl,h2,h3⟩⟩
   ·exact Or.inr ⟨h1,Or.inr (Or.inr ⟨rfl,a1,mem_any.2 a2,a3,h2,h3⟩)⟩
 ·rw [if_neg ha];refine un_one fun t c'=>⟨?_,fun ⟨h2,h3⟩=>⟨h1,Or.inl ⟨Or.inl rfl,h2,h3⟩⟩⟩;rintro ⟨_,⟨_,h2,h3⟩ | ⟨h2,_⟩ | ⟨_,a1,a2,a3,h2,h3⟩⟩
  ·rw [e] at h2;exact ⟨h2,h3⟩
  ·omega
  ·refine absurd ?_ ha;unfold ansB;simp only [Bool.and_eq_true];exact ⟨a1,mem_any.1 a2,a3⟩
end
theorem bal0_any (V : Boxes -> PutS -> World -> Prop) (d : Dv) (i : Int) (ls : List Lk) (T : Tab) (k : Int) (S nb sb kb mb : Nat) (vn vr vt : Value) (A : Option Addr) (cap : Nat) (BX : Boxes) (Q : PutS) (w : World) (c : Nat) (op : Bool) (hc : c < 16384)
  (H : Hid (DV V d i ls T k S nb sb kb mb vn vr vt)) (V0 : V BX Q w) (hbs : ∀ b ∈ d.backs,0 <= b /\ b < 16) (hl3 : d.backs.length <= 3)
  (HB : Hid (∀ bx Q W,V bx Q W -> SlAt W.heap.size W 1 IsI (.slice A d.backs.length cap) d.backs)) (hw : wasB T k (i,0) c = true) :
  Calls Tryz.prog 78 #[.pointer (some ⟨S,0,none⟩),.agg #[.string d.name,.int .i64 5,.int .i64 d.addr,.int .u8 (d.pool : Int),.slice A d.backs.length cap,vr,vt],.int .i64 i,.int .i64 0,.int .i64 k,pkV (pkN c),.bool op,.func (.func 36) #[] #[.pointer (some ⟨nb,0,none⟩),.pointer (some ⟨sb,0,none⟩),.pointer (some ⟨kb,0,none⟩),.pointer (some ⟨mb,0,none⟩)]] w fun e w'=>e = .returned (.tuple #[]) /\ V BX (un Q (one5 d i ls T k 0 c)) w':=by
 have hpc:=pkN_ok hc;obtain ⟨hb1,hb2,hb3,hb4⟩:=pk_bounds hpc;have PU : Hid (∀ {bx : Boxes} {Q : PutS} {W : World},V bx Q W -> Calls Tryz.prog 36 #[.int .i64 i,.int .i64 1,pkV (pkN c),.pointer (some ⟨nb,0,none⟩),.pointer (some ⟨sb,0,none⟩),.pointer (some ⟨kb,0,none⟩),.pointer (some ⟨mb,0,none⟩)] W fun e w'=>e = .returned (.tuple #[]) /\ V bx (addP Q (peerF ls i 1) (codeN (pkN c))) w'):=fun h=>H.out.put h 1 _ hpc;have PB : Hid (∀ {bx : Boxes} {Q : PutS} {W : World} {b : Int},0 <= b /\ b < 16 -> V bx Q W -> Calls Tryz.prog 36 #[.int .i64 i,.int .i64 1,.agg #[.int .i64 (pkN c).s,.int .i64 b,.int .i64 (pkN c).sp,.int .i64 (pkN c).dp],.pointer (some ⟨nb,0,none⟩),.pointer (some ⟨sb,0,none⟩),.pointer (some ⟨kb,0,none⟩),.pointer (some ⟨mb,0,none⟩)] W fun e w'=>e = .returned (.tuple #[]) /\ V bx (addP Q (peerF ls i 1) (codeN ⟨(pkN c).s,b,(pkN c).sp,(pkN c).dp⟩)) w'):=fun hb h=>H.out.put h 1 ⟨(pkN c).s,_,(pkN c).sp,(pkN c).dp⟩ (pk_made hb1 hb hb3 hb4);have V1:=H.out.new V0 #[.string d.name,.int .i64 5,.int .i64 d.addr,.int .u8 (d.pool : Int),.slice A d.backs.length cap,vr,vt] 56;have V2:=H.out.new V1 #[.int .i64 (pkN c).s,.int .i64 (pkN c).d,.int .i64 (pkN c).sp,.int .i64 (pkN c).dp] 29;rw [World.size_alloc] at V2;obtain ⟨BY,hBY⟩ : ∃ BY : Boxes,BY = (w.heap.size + 1,#[.int .i64 (pkN c).s,.int .i64 (pkN c).d,.int .i64 (pkN c).sp,.int .i64 (pkN c).dp],29) :: (w.heap.size,#[.string d.name,.int .i64 5,.int .i64 d.addr,.int .u8 (d.pool : Int),.slice A d.backs.length cap,vr,vt],56) :: BX:=⟨_,rfl⟩;rw [<- hBY] at V2;have BD : Hid (∀ {Q : PutS} {W : World},V BY Q W -> W.cell? ⟨w.heap.size,2,none⟩ = some (.int .i64 d.addr) /\ W.cell? ⟨w.heap.size,4,none⟩ = some (.slice A d.backs.length cap) /\ W.cell? ⟨w.heap.size + 1,0,none⟩ = some (.int .i64 (pkN c).s) /\ W.cell? ⟨w.heap.size + 1,1,none⟩ = some (.int .i64 (pkN c).d) /\ W.cell? ⟨w.heap.size + 1,2,none⟩ = some (.int .i64 (pkN c).sp) /\ W.cell? ⟨w.heap.size + 1,3,none⟩ = some (.int .i64 (pkN c).dp)):=fun {Q W} hv=>by
  rw [hBY] at hv;have B:=H.out.get hv (_,_,_) (List.mem_cons_of_mem _ List.mem_cons_self);obtain ⟨a0,a1,a2,a3,_⟩:=(H.out.get hv (_,_,_) List.mem_cons_self).four;exact ⟨B.at 2,B.at 4,a0,a1,a2,a3⟩
 have TO : Hid (∀ {Q : PutS} {W : World},V BY Q W -> V BX Q W):=fun {Q W} hv=>by
  rw [hBY] at hv;exact H.out.less hv (fun y hy=>List.mem_cons_of_mem _ (List.mem_cons_of_mem _ hy))
 have NC : Hid (∀ {Q : PutS} {W : World} (y : Nat × Array Value × TypeId),V (y :: BY) Q W -> V BY Q W):=fun y hv=>H.out.less hv (fun y hy=>List.mem_cons_of_mem _ hy);have BK : Hid (∀ {Q : PutS} {W : World} {j : Nat} {b : Int},d.backs[j]? = some b -> V BY Q W -> ∃ g o,A = some ⟨g,o,none⟩ /\ W.cell? ⟨g,o + j,none⟩ = some (.int .i64 b)):=fun {Q W j b} hj hv=>by
  obtain ⟨A',cap',e,h0,h1,h2,h3⟩:=HB.out _ _ _ hv;cases e;obtain ⟨g,o,ea,_,hr⟩:=h3 (fun e=>by rw [e] at hj;simp at hj);obtain ⟨cs,_,hR,hcell⟩:=hr j b hj;refine ⟨g,o,ea,?_⟩;have:=hcell 0 _ (by rw [show cs = [.int .i64 b] from hR];rfl);simpa using this
 clear V0 V1 HB;by_cases hd : (pkN c).d = d.addr
 ·have f1 : ((pkN c).d == d.addr) = true:=by simpa using hd
  have f2 : ((pkN c).d != d.addr) = false:=by simp [hd]
  have EN : Hid (un Q (backP d i ls (pkN c) d.backs.length) = un Q (one5 d i ls T k 0 c)):=one5_near hw hd;have BS : Hid (∀ (x : Nat) (b : Int),d.backs[x]? = some b -> addP (un Q (backP d i ls (pkN c) x)) (peerF ls i 1) (codeN ⟨(pkN c).s,b,(pkN c).sp,(pkN c).dp⟩) = un Q (backP d i ls (pkN c) (x + 1))):=fun x b h=>back_step h;have V3 : V BY (un Q (backP d i ls (pkN c) 0)) ((w.alloc (.cells #[.string d.name,.int .i64 5,.int .i64 d.addr,.int .u8 (d.pool : Int),.slice A d.backs.length cap,vr,vt] 56)).alloc (.cells #[.int .i64 (pkN c).s,.int .i64 (pkN c).d,.int .i64 (pkN c).sp,.int .i64 (pkN c).dp] 29)):=by rw [back_start];exact V2
  obtain ⟨d2,d4,x0,x1,x2,x3⟩:=BD.out V2;clear hd hw V2 PU;have HBL : Hid (∀ j,j < d.backs.length -> ∃ b,d.backs[j]? = some b /\ 0 <= b /\ b < 16):=fun j hj=>⟨_,List.getElem?_eq_getElem hj,hbs _ (List.getElem_mem hj)⟩;clear hbs;generalize hbP : backP d i ls (pkN c) = bP at *;clear hbP;generalize un Q (one5 d i ls T k 0 c) = R at *;generalize pkN c = pc at *;obtain ⟨s,dd,sp,dp⟩:=pc;dsimp only at *;go_enter Tryz.func78,Tryz.ntmps78;go_wp2_with fail;go_loopw [16] (fun u wr=>∃ x : Nat,u = .int .i64 (x : Int) /\ x <= d.backs.length /\ V BY (un Q (bP x)) wr) (fun u _=>d.backs.length - (intOf u).toNat)
  case atStart=>exact ⟨0,rfl,by omega,V3⟩
  case round =>
   clear V3 d2 d4 x0 x1 x2 x3;obtain ⟨x,rfl,hx,V4⟩:=hrel;obtain ⟨d2,d4,x0,x1,x2,x3⟩:=BD.out V4;by_cases hlt : x < d.backs.length
   ·obtain ⟨b,hb,hbb⟩:=HBL.out x hlt;have VD:=H.out.new V4 #[.int .i64 s,.int .i64 dd,.int .i64 sp,.int .i64 dp] 29;obtain ⟨e2,e4,_⟩:=BD.out (NC.out _ VD);obtain ⟨g,o,rfl,cb⟩:=BK.out hb (NC.out _ VD);have S1:=BS.out x b hb;have y1 : (x : Int) < (d.backs.length : Int):=by omega
    have y0 : (0 : Int) <= (x : Int):=by omega
    have VN:=H.out.new V4 #[.int .i64 s,.int .i64 b,.int .i64 sp,.int .i64 dp] 29;go_upto_region 9 with fail;generalize wr.alloc (.cells #[.int .i64 s,.int .i64 b,.int .i64 sp,.int .i64 dp] 29) = wn at *;generalize wr.heap.size = z at *;obtain ⟨a0,a1,a2,a3,_⟩:=(H.out.get VN (_,_,_) List.mem_cons_self).four;clear V4 VD d2 d4 e2 e4 x0 x1 x2 x3 cb hb;go_wp2_with fail;refine (PB.out hbb VN).mono ?_;rintro e wm ⟨rfl,VM⟩;have VZ:=NC.out _ VM;rw [S1] at VZ;clear VN VM S1 a0 a1 a2 a3;go_wp2_with fail;go_roundw
    case rel=>exact ⟨x + 1,by go_num,by omega,VZ⟩
    case measure=>simp [intOf];omega
   ·obtain rfl : x = d.backs.length:=by omega
    have VN:=H.out.new V4 #[.int .i64 dd,.int .i64 d.addr,.int .i64 dp,.int .i64 sp] 29;have VZ:=TO.out (NC.out _ VN);rw [EN.out] at VZ;clear VN;go_wp2_with fail
    go_returns
    exact ⟨rfl,VZ⟩
 ·have f1 : ((pkN c).d == d.addr) = false:=by simpa using hd
  have f2 : ((pkN c).d != d.addr) = true:=by simpa using hd
  have EN : Hid (un Q (one5 d i ls T k 0 c) = addP Q (peerF ls i 1) (codeN (pkN c))):=one5_far hw hd;obtain ⟨d2,d4,x0,x1,x2,x3⟩:=BD.out V2;clear hd hw PB hbs BK;generalize codeN (pkN c) = cc at *;generalize un Q (one5 d i ls T k 0 c) = R at *;generalize pkN c = pc at *;obtain ⟨s,dd,sp,dp⟩:=pc;dsimp only at *;go_enter Tryz.func78,Tryz.ntmps78;go_wp2_with fail;refine (PU.out V2).mono ?_;rintro e w3 ⟨rfl,V3⟩;rw [<- EN.out] at V3;clear V2 d2 d4 x0 x1 x2 x3 PU;obtain ⟨d2,d4,x0,x1,x2,x3⟩:=BD.out V3;have VN:=H.out.new V3 #[.int .i64 dd,.int .i64 d.addr,.int .i64 dp,.int .i64 sp] 29;have VZ:=TO.out (NC.out _ VN);clear VN;go_wp2_with fail
  go_returns
  exact ⟨rfl,VZ⟩
theorem bal1_any (V : Boxes -> PutS -> World -> Prop) (d : Dv) (i : Int) (ls : List Lk) (T : Tab) (k : Int) (S nb sb kb mb : Nat) (vn vr vt : Value) (A : Option Addr) (cap : Nat) (BX : Boxes) (Q : PutS) (w : World) (c : Nat) (op : Bool) (hc : c < 16384) (ha : 0 <= d.addr /\ d.addr < 16) (hk : d.kind = 5)
  (H : Hid (DV V d i ls T k S nb sb kb mb vn vr vt)) (V0 : V BX Q w) (hop : (peerF ls i 1).isSome = op)
  (HB : Hid (∀ bx Q W,V bx Q W -> SlAt W.heap.size W 1 IsI (.slice A d.backs.length cap) d.backs)) (hw : wasB T k (i,1) c = true) :
  Calls Tryz.prog 78 #[.pointer (some ⟨S,0,none⟩),.agg #[.string d.name,.int .i64 5,.int .i64 d.addr,.int .u8 (d.pool : Int),.slice A d.backs.length cap,vr,vt],.int .i64 i,.int .i64 1,.int .i64 k,pkV (pkN c),.bool op,.func (.func 36) #[] #[.pointer (some ⟨nb,0,none⟩),.pointer (some ⟨sb,0,none⟩),.pointer (some ⟨kb,0,none⟩),.pointer (some ⟨mb,0,none⟩)]] w fun e w'=>e = .returned (.tuple #[]) /\ V BX (un Q (one5 d i ls T k 1 c)) w':=by
 have hpc:=pkN_ok hc;obtain ⟨hb1,hb2,hb3,hb4⟩:=pk_bounds hpc;have ho1 : pkOk ⟨(pkN c).d,d.addr,(pkN c).dp,(pkN c).sp⟩ = true:=pk_made hb2 ha hb4 hb3;have ho2 : pkOk ⟨d.addr,(pkN c).d,(pkN c).sp,(pkN c).dp⟩ = true:=pk_made ha hb2 hb3 hb4;have hcl:=codeN_lt ho1;have PU : Hid (∀ {bx : Boxes} {Q : PutS} {W : World},V bx Q W -> Calls Tryz.prog 36 #[.int .i64 i,.int .i64 0,pkV (pkN c),.pointer (some ⟨nb,0,none⟩),.pointer (some ⟨sb,0,none⟩),.pointer (some ⟨kb,0,none⟩),.pointer (some ⟨mb,0,none⟩)] W fun e w'=>e = .returned (.tuple #[]) /\ V bx (addP Q (peerF ls i 0) (codeN (pkN c))) w'):=fun h=>H.out.put h 0 _ hpc;have PA : Hid (∀ {bx : Boxes} {Q : PutS} {W : World},V bx Q W -> Calls Tryz.prog 36 #[.int .i64 i,.int .i64 0,.agg #[.int .i64 d.addr,.int .i64 (pkN c).d,.int .i64 (pkN c).sp,.int .i64 (pkN c).dp],.pointer (some ⟨nb,0,none⟩),.pointer (some ⟨sb,0,none⟩),.pointer (some ⟨kb,0,none⟩),.pointer (some ⟨mb,0,none⟩)] W fun e w'=>e = .returned (.tuple #[]) /\ V bx (addP Q (peerF ls i 0) (codeN ⟨d.addr,(pkN c).d,(pkN c).sp,(pkN c).dp⟩)) w'):=fun h=>H.out.put h 0 ⟨d.addr,(pkN c).d,(pkN c).sp,(pkN c).dp⟩ ho2;have RC : Hid (∀ W : World,Calls Tryz.prog 37 #[.agg #[.int .i64 (pkN c).d,.int .i64 d.addr,.int .i64 (pkN c).dp,.int .i64 (pkN c).sp]] W fun e w'=>e = .returned (.int .i64 (codeN ⟨(pkN c).d,d.addr,(pkN c).dp,(pkN c).sp⟩ : Int)) /\ Below W.heap.size W w'):=fun W=>rcode_any ⟨(pkN c).d,d.addr,(pkN c).dp,(pkN c).sp⟩ W ho1;have W0 : Hid (∀ {bx : Boxes} {Q : PutS} {W : World},V bx Q W -> Calls Tryz.prog 73 #[.pointer (some ⟨S,0,none⟩),.int .i64 i,.int .i64 0,.int .i64 (codeN ⟨(pkN c).d,d.addr,(pkN c).dp,(pkN c).sp⟩ : Int),.int .i64 k] W fun e w'=>e = .returned (.bool (wasB T k (i,0) (codeN ⟨(pkN c).d,d.addr,(pkN c).dp,(pkN c).sp⟩))) /\ w' = W):=fun h=>H.out.was h 0 _ (by omega) (by rw [hk];show (0 : Int) < 2;omega) hcl;have CT : Hid (∀ {bx : Boxes} {Q : PutS} {W : World},V bx Q W -> Calls Tryz.prog 63 #[.slice A d.backs.length cap,.int .i64 (pkN c).s] W fun e w'=>e = .returned (.bool (d.backs.any (fun y=>y == (pkN c).s))) /\ w' = W):=fun {bx Q W} h=>containsI_any A _ cap d.backs (pkN c).s W.heap.size W (HB.out _ _ _ h);have V1:=H.out.new V0 #[.string d.name,.int .i64 5,.int .i64 d.addr,.int .u8 (d.pool : Int),.slice A d.backs.length cap,vr,vt] 56;have V2:=H.out.new V1 #[.int .i64 (pkN c).s,.int .i64 (pkN c).d,.int .i64 (pkN c).sp,.int .i64 (pkN c).dp] 29;rw [World.size_alloc] at V2;obtain ⟨BY,hBY⟩ : ∃ BY : Boxes,BY = (w.heap.size,#[.string d.name,.int .i64 5,.int .i64 d.addr,.int .u8 (d.pool : Int),.slice A d.backs.length cap,vr,vt],56) :: BX:=⟨_,rfl⟩;have HNE : Hid (∀ y ∈ BY,y.1 ≠ w.heap.size + 1):=fun y hy=>by
  rw [hBY] at hy;rcases List.mem_cons.1 hy with rfl | hy
  ·show w.heap.size ≠ w.heap.size + 1;omega
  ·have:=(H.out.get V0 y hy).lt;omega
 rw [<- hBY] at V2;have BD : Hid (∀ {Q : PutS} {W : World} {y : Nat × Array Value × TypeId},V (y :: BY) Q W -> W.cell? ⟨w.heap.size,2,none⟩ = some (.int .i64 d.addr) /\ W.cell? ⟨w.heap.size,4,none⟩ = some (.slice A d.backs.length cap)):=fun {Q W y} hv=>by
  rw [hBY] at hv;have B:=H.out.get hv (_,_,_) (List.mem_cons_of_mem _ List.mem_cons_self);exact ⟨B.at 2,B.at 4⟩
 have GP : Hid (∀ {x : Nat} {s0 s1 s2 s3 : Int} {bx : Boxes} {Q : PutS} {W : World},V ((x,#[.int .i64 s0,.int .i64 s1,.int .i64 s2,.int .i64 s3],29) :: bx) Q W -> W.cell? ⟨x,0,none⟩ = some (.int .i64 s0) /\ W.cell? ⟨x,1,none⟩ = some (.int .i64 s1) /\ W.cell? ⟨x,2,none⟩ = some (.int .i64 s2) /\ W.cell? ⟨x,3,none⟩ = some (.int .i64 s3) /\ W.frozen? ⟨x,0,none⟩ = false):=fun {x s0 s1 s2 s3 bx Q W} hv=>by
  obtain ⟨a0,a1,a2,a3,a4,_⟩:=(H.out.get hv (_,_,_) List.mem_cons_self).four;exact ⟨a0,a1,a2,a3,a4⟩
 have TO : Hid (∀ {Q : PutS} {W : World} {y : Nat × Array Value × TypeId},V (y :: BY) Q W -> V BX Q W):=fun {Q W y} hv=>by
  rw [hBY] at hv;exact H.out.less hv (fun y hy=>List.mem_cons_of_mem _ (List.mem_cons_of_mem _ hy))
 have EN : Hid (ansB d i ls T k (pkN c) = true -> un Q (one5 d i ls T k 1 c) = addP (addP Q (peerF ls i 0) (codeN (pkN c))) (peerF ls i 0) (codeN ⟨d.addr,(pkN c).d,(pkN c).sp,(pkN c).dp⟩)):=fun h=>by rw [one5_back hw,if_pos h]
 have EO : Hid (ansB d i ls T k (pkN c) = false -> un Q (one5 d i ls T k 1 c) = addP Q (peerF ls i 0) (codeN (pkN c))):=fun h=>by rw [one5_back hw,if_neg (by rw [h];decide)]
 unfold ansB at EN EO;rw [hop] at EN EO;clear V0 V1 HB hBY hw hop hpc ho1 ho2 hcl hb1 hb2 hb3 hb4;generalize codeN ⟨(pkN c).d,d.addr,(pkN c).dp,(pkN c).sp⟩ = cw at *;generalize codeN ⟨d.addr,(pkN c).d,(pkN c).sp,(pkN c).dp⟩ = ca at *;generalize codeN (pkN c) = cc at *;generalize d.backs.any (fun y=>y == (pkN c).s) = xb at *;generalize wasB T k (i,0) cw = xw at *;generalize un Q (one5 d i ls T k 1 c) = R at *;have E1 : Hid (op = false -> R = addP Q (peerF ls i 0) cc):=fun h=>EO.out (by rw [h];rfl);have E2 : Hid (op = true -> xb = false -> R = addP Q (peerF ls i 0) cc):=fun h h'=>EO.out (by rw [h,h'];rfl);have E3 : Hid (op = true -> xb = true -> xw = false -> R = addP Q (peerF ls i 0) cc):=fun h h' h''=>EO.out (by rw [h,h',h''];rfl);have E4 : Hid (op = true -> xb = true -> xw = true -> R = addP (addP Q (peerF ls i 0) cc) (peerF ls i 0) ca):=fun h h' h''=>EN.out (by rw [h,h',h''];rfl);clear EN EO;generalize pkN c = pc at *;obtain ⟨s,dd,sp,dp⟩:=pc;dsimp only at *;obtain ⟨d2,d4⟩:=BD.out V2;obtain ⟨x0,x1,x2,x3,x4⟩:=GP.out V2;go_enter Tryz.func78,Tryz.ntmps78;go_wp2_with fail;refine (PU.out V2).mono ?_;rintro e w3 ⟨rfl,V3⟩;clear V2 d2 d4 x0 x1 x2 x3 x4 PU;obtain ⟨d2,d4⟩:=BD.out V3;obtain ⟨x0,x1,x2,x3,x4⟩:=GP.out V3;have V5:=H.out.new V3 #[.int .i64 dd,.int .i64 d.addr,.int .i64 dp,.int .i64 sp] 29;go_upto_region 11 with fail;generalize w3.alloc (.cells #[.int .i64 dd,.int .i64 d.addr,.int .i64 dp,.int .i64 sp] 29) = w5 at *;generalize w3.heap.size = z at *;clear V3 d2 d4 x0 x1 x2 x3 x4;have VP:=H.out.less V5 (bx':=(w.heap.size + 1,#[.int .i64 s,.int .i64 dd,.int .i64 sp,.int .i64 dp],29) :: BY) (fun y hy=>List.mem_cons_of_mem _ hy);obtain ⟨d2,d4⟩:=BD.out VP;obtain ⟨x0,x1,x2,x3,x4⟩:=GP.out VP;obtain ⟨z0,z1,z2,z3,z4⟩:=GP.out V5;cases op with
 | false =>
   have VZ : V BX R w5:=by rw [E1.out rfl];exact TO.out VP
   clear VP V5 E1 E2 E3 E4;go_wp2_with fail
   go_returns
   exact ⟨rfl,VZ⟩
 | true =>
 cases xb with
 | false =>
   have VZ : V BX R w5:=by rw [E2.out rfl rfl];exact TO.out VP
   clear E1 E2 E3 E4;go_wp2_with fail;refine (CT.out V5).mono ?_;rintro e w6 ⟨rfl,rfl⟩;clear VP V5;go_wp2_with fail
   go_returns
   exact ⟨rfl,VZ⟩
 | true =>
 cases xw with
 | false =>
   have E3' : Hid (R = addP Q (peerF ls i 0) cc):=E3.out rfl rfl rfl;clear E1 E2 E3 E4;go_wp2_with fail;refine (CT.out V5).mono ?_;rintro e w6 ⟨rfl,rfl⟩;go_wp2_with fail;refine (RC.out _).mono ?_;rintro e w7 ⟨rfl,hb7⟩;have V7:=H.out.below VP hb7;clear hb7 VP V5;go_wp2_with fail;refine (W0.out V7).mono ?_;rintro e w8 ⟨rfl,rfl⟩;have VZ : V BX R w8:=by rw [E3'.out];exact TO.out V7
   clear V7;go_wp2_with fail
   go_returns
   exact ⟨rfl,VZ⟩
 | true =>
   have E4' : Hid (R = addP (addP Q (peerF ls i 0) cc) (peerF ls i 0) ca):=E4.out rfl rfl rfl;clear E1 E2 E3 E4;go_wp2_with fail;refine (CT.out V5).mono ?_;rintro e w6 ⟨rfl,rfl⟩;go_wp2_with fail;refine (RC.out _).mono ?_;rintro e w7 ⟨rfl,hb7⟩;have V7:=H.out.below VP hb7;clear hb7 VP V5 d2 d4 x0 x1 x2 x3 x4 z0 z1 z2 z3 z4;go_wp2_with fail;refine (W0.out V7).mono ?_;rintro e w8 ⟨rfl,rfl⟩;obtain ⟨d2,d4⟩:=BD.out V7;obtain ⟨x0,x1,x2,x3,x4⟩:=GP.out V7;have V8:=H.out.set V7 HNE.out 0 (.int .i64 d.addr);rw [show (#[.int .i64 s,.int .i64 dd,.int .i64 sp,.int .i64 dp] : Array Value).setIfInBounds 0 (.int .i64 d.addr) = #[.int .i64 d.addr,.int .i64 dd,.int .i64 sp,.int .i64 dp] from rfl] at V8;go_upto_region 13 with fail;generalize w8.setCell ⟨w.heap.size + 1,0,none⟩ (.int .i64 d.addr) = w9 at *;clear V7 d2 d4 x0 x1 x2 x3 x4;obtain ⟨x0,x1,x2,x3,x4⟩:=GP.out V8;go_wp2_with fail;refine (PA.out V8).mono ?_;rintro e wf ⟨rfl,VF⟩;have VZ : V BX R wf:=by rw [E4'.out];exact TO.out VF
   clear V8 VF;go_wp2_with fail
   go_returns
   exact ⟨rfl,VZ⟩
end Go.Proofs.YtppbfikimalojaaGreat
