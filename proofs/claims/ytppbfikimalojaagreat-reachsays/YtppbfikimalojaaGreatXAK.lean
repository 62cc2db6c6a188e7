/-
  XAK.
-/
import Derived.Test.YtppbfikimalojaaGreatXAJ
import Derived.Test.YtppbfikimalojaaGreatXLy
import Derived.Test.YtppbfikimalojaaGreatXAI
set_option maxHeartbeats 8000000
set_option maxRecDepth 100000
namespace Go.Proofs.YtppbfikimalojaaGreat
open Go.RowKit Go.Maps
theorem exF_never (i j : Nat) : ∀ k,exF (fun _=>false) i j k = fun _=>false
 | 0=>rfl
 | k + 1=>by funext x;show exF _ i j k _ = false;rw [exF_never i j k]
theorem anF_never (i : Nat) : ∀ k,anF (fun _=>false) i k = fun _=>false
 | 0=>rfl
 | k + 1=>by funext x;show (anF _ i k _ || anF _ i k _) = false;rw [anF_never i k];rfl
theorem sendF_never (d : Dv) (q : Int) (x : Env) : sendF d q (fun _=>false) (fun _=>false) (fun _=>false) (fun _=>false) x = false:=by
 unfold sendF
 split
 ·simp [orP]
 split
 ·split <;> simp
 split
 ·split <;> simp [anF_never]
 split
 ·split <;> simp [anF_never]
 ·rfl
open Classical in
noncomputable def SetF (ds : List Dv) (ls : List Lk) : Nat -> Nat -> Nat -> Env -> Bool
 | 0=>fun a b x=>decide (HostBy ds ls ds.length ((a : Int),(b : Int)) x)
 | k + 1=>fun a b x=>decide (SetF ds ls k a b x = true ∨ SentBy ds ls (fun _=>False) (SetF ds ls k) ds.length 0 ((a : Int),(b : Int)) x)
section
variable {ds : List Dv} {ls : List Lk} {ns nsR : List Nd} {sw sn sx : Nat -> Nat -> Nat} {k : Nat}
theorem setF_zero (a b : Nat) (x : Env) : SetF ds ls 0 a b x = true ↔ HostBy ds ls ds.length ((a : Int),(b : Int)) x:=by
 unfold SetF;exact @decide_eq_true_iff _ (Classical.propDecidable _)
theorem setF_succ (k a b : Nat) (x : Env) : SetF ds ls (k + 1) a b x = true ↔ SetF ds ls k a b x = true ∨ SentBy ds ls (fun _=>False) (SetF ds ls k) ds.length 0 ((a : Int),(b : Int)) x:=by
 rw [SetF];simp only [decide_eq_true_eq]
structure NInv (ds : List Dv) (ls : List Lk) (k : Nat) (ns : List Nd) (sw sn : Nat -> Nat -> Nat) : Prop where
 ltw : ∀ a b,a < 10 -> b < 4 -> sw a b < ns.length
 ltn : ∀ a b,a < 10 -> b < 4 -> sn a b < ns.length
 fn : ∀ a b,a < 10 -> b < 4 -> ev ns (sn a b) = SetF ds ls k a b
 was : (k = 0 /\ ∀ a b,a < 10 -> b < 4 -> ev ns (sw a b) = fun _=>false) ∨ ∃ j,k = j + 1 /\ ∀ a b,a < 10 -> b < 4 -> ev ns (sw a b) = SetF ds ls j a b
theorem ninv_start (h : HInv ds ls ds.length ns sn) (hW : Wf 14 ns) : NInv ds ls 0 ns (fun _ _=>0) sn:=by
 refine ⟨fun _ _ _ _=>Nat.lt_of_lt_of_le (by omega) hW.len,h.lt,fun a b ha hb=>funext fun x=>?_,Or.inl ⟨rfl,fun _ _ _ _=>funext fun x=>ev0 _ x⟩⟩;rw [Bool.eq_iff_iff,h.fn a b ha hb x,setF_zero]
theorem ninv_grow (h : NInv ds ls k nsR sw sn) (h10 : ds.length <= 10) (G : GInv ds ls (fun i=>sn i 0 = sw i 0 /\ sn i 1 = sw i 1 /\ sn i 2 = sw i 2 /\ sn i 3 = sw i 3) (fun a b=>ev nsR (sn a b)) ds.length 0 ns sx) (a b : Nat) (ha : a < 10) (hb : b < 4) : ev ns (sx a b) = SetF ds ls (k + 1) a b:=by
 funext x
 rw [Bool.eq_iff_iff,G.fn a b ha hb x,setF_succ,h.fn a b ha hb];refine ⟨?_,?_⟩
 ·rintro (h1 | ⟨i,q,d,h1,_,h3,h4,h5,h6⟩)
  ·exact Or.inl h1
  ·have hi : i < 10:=by
    have:=(List.getElem?_eq_some_iff.1 h3).1;omega
   dsimp only at h6;rw [h.fn i 0 hi (by omega),h.fn i 1 hi (by omega),h.fn i 2 hi (by omega),h.fn i 3 hi (by omega)] at h6;exact Or.inr ⟨i,q,d,h1,fun h=>h,h3,h4,h5,h6⟩
 ·rintro (h1 | ⟨i,q,d,h1,_,h3,h4,h5,h6⟩)
  ·exact Or.inl h1
  ·have hi':=(List.getElem?_eq_some_iff.1 h3).1;have hi : i < 10:=by omega
   by_cases hs : sn i 0 = sw i 0 /\ sn i 1 = sw i 1 /\ sn i 2 = sw i 2 /\ sn i 3 = sw i 3
   ·obtain ⟨s0,s1,s2,s3⟩:=hs;rw [<- h.fn i 0 hi (by omega),<- h.fn i 1 hi (by omega),<- h.fn i 2 hi (by omega),<- h.fn i 3 hi (by omega),s0,s1,s2,s3] at h6;rcases h.was with ⟨_,hw⟩ | ⟨j,rfl,hw⟩
    ·rw [hw i 0 hi (by omega),hw i 1 hi (by omega),hw i 2 hi (by omega),hw i 3 hi (by omega),sendF_never] at h6;cases h6
    ·rw [hw i 0 hi (by omega),hw i 1 hi (by omega),hw i 2 hi (by omega),hw i 3 hi (by omega)] at h6;exact Or.inl ((setF_succ j a b x).2 (Or.inr ⟨i,q,d,h1,fun h=>h,h3,h4,h5,h6⟩))
   ·rw [<- h.fn i 0 hi (by omega),<- h.fn i 1 hi (by omega),<- h.fn i 2 hi (by omega),<- h.fn i 3 hi (by omega)] at h6;exact Or.inr ⟨i,q,d,h1,hs,h3,h4,h5,h6⟩
theorem ninv_next (h : NInv ds ls k nsR sw sn) (h10 : ds.length <= 10) (hW : Wf 14 nsR) (hW' : Wf 14 ns) (X : Ext nsR ns) (G : GInv ds ls (fun i=>sn i 0 = sw i 0 /\ sn i 1 = sw i 1 /\ sn i 2 = sw i 2 /\ sn i 3 = sw i 3) (fun a b=>ev nsR (sn a b)) ds.length 0 ns sx) : NInv ds ls (k + 1) ns sn sx:=by
 have hlen:=X.len;refine ⟨fun a b ha hb=>Nat.lt_of_lt_of_le (h.ltn a b ha hb) hlen,G.lt,ninv_grow h h10 G,Or.inr ⟨k,rfl,fun a b ha hb=>?_⟩⟩;rw [<- h.fn a b ha hb];exact funext (X.ev hW hW' _ (h.ltn a b ha hb))
theorem ninv_end (h : NInv ds ls k nsR sw sn) (h10 : ds.length <= 10) (hW : Wf 14 nsR) (hW' : Wf 14 ns) (X : Ext nsR ns) (G : GInv ds ls (fun i=>sn i 0 = sw i 0 /\ sn i 1 = sw i 1 /\ sn i 2 = sw i 2 /\ sn i 3 = sw i 3) (fun a b=>ev nsR (sn a b)) ds.length 0 ns sx) (he : ∀ a b,a < 10 -> b < 4 -> sx a b = sn a b) (a b : Nat) (ha : a < 10) (hb : b < 4) : SetF ds ls (k + 1) a b = SetF ds ls k a b:=by
 rw [<- ninv_grow h h10 G a b ha hb,he a b ha hb,<- h.fn a b ha hb];exact funext (X.ev hW hW' _ (h.ltn a b ha hb))
def envN (n : Nat) : Env:=fun v=>n.testBit v
noncomputable def cntF (ds : List Dv) (ls : List Lk) (k : Nat) : Nat :=
 (List.range 655360).countP fun n=>SetF ds ls k (n / 65536) (n / 16384 % 4) (envN (n % 16384))
theorem cntF_le (k : Nat) : cntF ds ls k <= 655360:=by
 unfold cntF;exact Nat.le_trans List.countP_le_length (by simp)
theorem countP_less {p q : Nat -> Bool} : ∀ {l : List Nat},(∀ n ∈ l,p n = true -> q n = true) -> ∀ n0 ∈ l,q n0 = true -> p n0 = false -> l.countP p < l.countP q
 | [],_,_,h0,_,_=>by cases h0
 | y :: l,h,n0,h0,h1,h2=>by
   have hle : l.countP p <= l.countP q:=List.countP_mono_left fun n hn=>h n (List.mem_cons_of_mem _ hn);rcases List.mem_cons.1 h0 with rfl | h0
   ·simp only [List.countP_cons,h1,h2];simp;omega
   ·have ih:=countP_less (fun n hn=>h n (List.mem_cons_of_mem _ hn)) n0 h0 h1 h2;have hy:=h y List.mem_cons_self;simp only [List.countP_cons];cases hp : p y
    ·simp;omega
    ·rw [hy hp];simp;omega
theorem env_codes (x : Env) : ∀ k,∃ n,n < 2 ^ k /\ ∀ v,v < k -> n.testBit v = x v
 | 0=>⟨0,by simp,fun v hv=>by omega⟩
 | k + 1=>by
   obtain ⟨n,hn,hx⟩:=env_codes x k;have hp : 2 ^ (k + 1) = 2 ^ k + 2 ^ k:=by omega
   cases hk : x k
   ·refine ⟨n,by omega,fun v hv=>?_⟩;by_cases e : v = k
    ·rw [e,hk];exact Nat.testBit_lt_two_pow hn
    ·exact hx v (by omega)
   ·refine ⟨2 ^ k + n,by omega,fun v hv=>?_⟩;by_cases e : v = k
    ·rw [e,hk,Nat.testBit_two_pow_add_eq,Nat.testBit_lt_two_pow hn];rfl
    ·rw [Nat.testBit_two_pow_add_gt (by omega)];exact hx v (by omega)
theorem env_code (x : Env) : ∃ n,n < 16384 /\ ∀ v,v < 14 -> envN n v = x v:=env_codes x 14
theorem cnt_more (h : NInv ds ls k nsR sw sn) (h10 : ds.length <= 10) (hW : Wf 14 nsR) (hW' : Wf 14 ns) (X : Ext nsR ns) (G : GInv ds ls (fun i=>sn i 0 = sw i 0 /\ sn i 1 = sw i 1 /\ sn i 2 = sw i 2 /\ sn i 3 = sw i 3) (fun a b=>ev nsR (sn a b)) ds.length 0 ns sx) {a b : Nat} (ha : a < 10) (hb : b < 4) (hne : sx a b ≠ sn a b) : cntF ds ls k < cntF ds ls (k + 1):=by
 have hlen:=X.len;have hln:=Nat.lt_of_lt_of_le (h.ltn a b ha hb) hlen;have hsn : ev ns (sn a b) = SetF ds ls k a b:=by
  rw [<- h.fn a b ha hb];exact funext (X.ev hW hW' _ (h.ltn a b ha hb))
 obtain ⟨e,he⟩ : ∃ e,ev ns (sx a b) e ≠ ev ns (sn a b) e:=Classical.byContradiction fun hc=>hne (canon hW' (G.lt a b ha hb) hln fun e=>Classical.byContradiction fun h2=>hc ⟨e,h2⟩);obtain ⟨n,hn,hx⟩:=env_code e;have d1:=ev_dep hW' _ (G.lt a b ha hb) (envN n) e fun i _ hi=>hx i hi;have d2:=ev_dep hW' _ hln (envN n) e fun i _ hi=>hx i hi;rw [<- d1,<- d2,ninv_grow h h10 G a b ha hb,hsn] at he;have hup : ∀ a b x,SetF ds ls k a b x = true -> SetF ds ls (k + 1) a b x = true:=fun a b x h=>(setF_succ k a b x).2 (Or.inl h);have q1 : (a * 65536 + b * 16384 + n) / 65536 = a:=by omega
 have q2 : (a * 65536 + b * 16384 + n) / 16384 % 4 = b:=by omega
 have q3 : (a * 65536 + b * 16384 + n) % 16384 = n:=by omega
 refine countP_less (fun m _ hm=>hup _ _ _ hm) (a * 65536 + b * 16384 + n) (List.mem_range.2 (by omega)) ?_ ?_
 ·show SetF ds ls (k + 1) _ _ _ = true;rw [q1,q2,q3];cases h1 : SetF ds ls (k + 1) a b (envN n)
  ·cases h2 : SetF ds ls k a b (envN n)
   ·rw [h1,h2] at he;exact absurd rfl he
   ·rw [hup _ _ _ h2] at h1;cases h1
  ·rfl
 ·show SetF ds ls k _ _ _ = false;rw [q1,q2,q3];cases h2 : SetF ds ls k a b (envN n)
  ·rfl
  ·rw [h2,hup _ _ _ h2] at he;exact absurd rfl he
end
theorem Ar.copied {base a M vars most : Nat} {w : World} {ns : List Nd} (h : Ar base a M vars most w ns) :
  ∃ g cap,w.cell? ⟨a,0,none⟩ = some (.int .i64 (vars : Int)) /\ w.cell? ⟨a,1,none⟩ = some (.int .i64 (most : Int)) /\ w.cell? ⟨a,2,none⟩ = some (.slice (some ⟨g,0,none⟩) ns.length cap) /\ w.cell? ⟨a,3,none⟩ = some (.map (some M)) /\
    ∀ W,Below w.heap.size w W -> Ar base W.heap.size M vars most (W.alloc (.cells #[.int .i64 (vars : Int),.int .i64 (most : Int),.slice (some ⟨g,0,none⟩) ns.length cap,.map (some M),.slice none 0 0] 85)) ns:=by
 obtain ⟨g,cap,cs,t,hb,hc,hrow⟩:=h.blk;refine ⟨g,cap,?_,?_,?_,?_,fun W hW=>?_⟩
 ·rw [cell_of_row w a 0 _ _ _ hb];exact hc.c0
 ·rw [cell_of_row w a 1 _ _ _ hb];exact hc.c1
 ·rw [cell_of_row w a 2 _ _ _ hb];exact hc.c2
 ·rw [cell_of_row w a 3 _ _ _ hb];exact hc.c3
 have hlo : base <= W.heap.size:=Nat.le_trans h.lowA (Nat.le_trans (Nat.le_of_lt h.lta) hW.size);refine ⟨h.wf,h.le,h.vars1,h.vars16,h.most4,hlo,h.lowM,⟨g,cap,_,_,Go.heap_alloc_new W _,⟨rfl,rfl,rfl,rfl,Or.inr rfl⟩,?_⟩,?_⟩
 ·refine ⟨hrow.1,?_⟩;rcases hrow.2 with ⟨hv,_⟩ | ⟨g',cap',cur,hv,hbase,hg,rest⟩
  ·cases hv
  ·simp only [Value.slice.injEq,Option.some.injEq,Addr.mk.injEq,and_true,true_and] at hv;obtain ⟨rfl,rfl⟩:=hv;have hlt : g < w.heap.size:=(Array.getElem?_eq_some_iff.1 hg).1;exact .inr ⟨g,cap,cur,rfl,hbase,(Below.heap_alloc W _ g (Nat.lt_of_lt_of_le hlt hW.size)).trans ((hW.block g hlt).trans hg),rest⟩
 ·obtain ⟨num,hm,hn⟩:=h.map;exact ⟨num,hm.same ((Below.heap_alloc W _ M (Nat.lt_of_lt_of_le h.ltM hW.size)).trans (hW.block M h.ltM)),hn⟩
end Go.Proofs.YtppbfikimalojaaGreat
namespace Go.Proofs.YtppbfikimalojaaGreat
open Go.RowKit
def LM (w : World) (n : Nat) (a b c d e f g h : Value) : Prop:=Lk4 w n a b c d /\ Lk4 w (n + 1) e f g h
theorem LM.cells {w : World} {n : Nat} {a b c d e f g h : Value} (H : LM w n a b c d e f g h) : w.cell? ⟨n,0,none⟩ = some a /\ w.cell? ⟨n,1,none⟩ = some b /\ w.cell? ⟨n,2,none⟩ = some c /\ w.cell? ⟨n,3,none⟩ = some d /\ w.cell? ⟨n + 1,0,none⟩ = some e /\ w.cell? ⟨n + 1,1,none⟩ = some f /\ w.cell? ⟨n + 1,2,none⟩ = some g /\ w.cell? ⟨n + 1,3,none⟩ = some h:=by
 obtain ⟨⟨_,h1,h2,h3,h4⟩,⟨_,h5,h6,h7,h8⟩⟩:=H;exact ⟨h1,h2,h3,h4,h5,h6,h7,h8⟩
theorem LM.keep {W w' : World} {n : Nat} {a b c d e f g h : Value} (hb : Below W.heap.size W w') (H : LM W n a b c d e f g h) : LM w' n a b c d e f g h:=⟨H.1.below hb H.1.1,H.2.below hb H.2.1⟩
theorem LM.drew {w : World} {n : Nat} {a b c d e f g h : Value} (H : LM w n a b c d e f g h) : LM w.drew n a b c d e f g h:=H
theorem lm_new (w : World) (a b c d e f g h : Value) (t : TypeId) : LM ((w.alloc (.cells #[a,b,c,d] t)).alloc (.cells #[e,f,g,h] t)) w.heap.size a b c d e f g h:=by
 refine ⟨(lk4_new w a b c d t).alloc _,?_⟩;have:=lk4_new (w.alloc (.cells #[a,b,c,d] t)) e f g h t;rw [World.size_alloc] at this;exact this
theorem meet_0 (la lp lb lq ma mp mb mq : Int) (w : World) (h0 : ((la == ma) && (lp == mp)) = true) : Calls Tryz.prog 124 #[lkA la lp lb lq,lkA ma mp mb mq] w fun e w'=>e = .returned (.bool true) /\ Below w.heap.size w w':=by
 have D0:=(Below.alN (Below.alN (Below.refl w.heap.size w) (.cells #[.int .i64 la,.int .i64 lp,.int .i64 lb,.int .i64 lq] 96)) (.cells #[.int .i64 ma,.int .i64 mp,.int .i64 mb,.int .i64 mq] 96)).drew;have M0:=(lm_new w (.int .i64 la) (.int .i64 lp) (.int .i64 lb) (.int .i64 lq) (.int .i64 ma) (.int .i64 mp) (.int .i64 mb) (.int .i64 mq) 96).drew;have FL : Hid (∀ w,Calls Tryz.prog 120 #[lkA la lp lb lq] w fun e w'=>e = .returned (plA la lp) /\ Below w.heap.size w w'):=fun w=>from_any _ _ _ _ w;have TL : Hid (∀ w,Calls Tryz.prog 121 #[lkA la lp lb lq] w fun e w'=>e = .returned (plA lb lq) /\ Below w.heap.size w w'):=fun w=>to_any _ _ _ _ w;have FM : Hid (∀ w,Calls Tryz.prog 120 #[lkA ma mp mb mq] w fun e w'=>e = .returned (plA ma mp) /\ Below w.heap.size w w'):=fun w=>from_any _ _ _ _ w;have TM : Hid (∀ w,Calls Tryz.prog 121 #[lkA ma mp mb mq] w fun e w'=>e = .returned (plA mb mq) /\ Below w.heap.size w w'):=fun w=>to_any _ _ _ _ w;have P0 : ∀ w,(binOp .eql 27 (plA la lp) (plA ma mp)).run Tryz.prog w = .ok (.bool true) w:=fun w=>by rw [place_eq,h0]
 clear h0;go_enter Tryz.func124,Tryz.ntmps124;go_wp2_with fail;refine wp_region_held_drew (S:=(fun w'=>w'.cell? ⟨w.heap.size,0,none⟩ = some (.int .i64 la) /\ w'.cell? ⟨w.heap.size,1,none⟩ = some (.int .i64 lp) /\ w'.cell? ⟨w.heap.size,2,none⟩ = some (.int .i64 lb) /\ w'.cell? ⟨w.heap.size,3,none⟩ = some (.int .i64 lq) /\ w'.cell? ⟨w.heap.size + 1,0,none⟩ = some (.int .i64 ma) /\ w'.cell? ⟨w.heap.size + 1,1,none⟩ = some (.int .i64 mp) /\ w'.cell? ⟨w.heap.size + 1,2,none⟩ = some (.int .i64 mb) /\ w'.cell? ⟨w.heap.size + 1,3,none⟩ = some (.int .i64 mq))) (by kernel_rfl) (LM.cells (n:=w.heap.size) ‹_›) (fun hHeld=>?_);refine tk 0 ?_;try simp only [ly]
 refine tk 2 ?_;try simp only [ly]
 refine rd 1 (fun K hK=>?_);go_simp;refine (FL.out _).mono ?_;rintro e wz ⟨rfl,hbz⟩;have Dz:=chnN (W0:=w) hbz ‹_›;have Pz:=LM.keep (n:=w.heap.size) hbz ‹_›;clear hbz;try go_wp2_with fail
 clear hHeld;refine hK.out _ _ (LM.cells (n:=w.heap.size) ‹_›) (fun hHeld=>?_);clear hK K;try simp only [ly]
 refine rd 3 (fun K hK=>?_);go_simp;refine (FM.out _).mono ?_;rintro e wz ⟨rfl,hbz⟩;have Dz:=chnN (W0:=w) hbz ‹_›;have Pz:=LM.keep (n:=w.heap.size) hbz ‹_›;clear hbz;try go_wp2_with fail
 clear hHeld;refine hK.out _ _ (LM.cells (n:=w.heap.size) ‹_›) (fun hHeld=>?_);clear hK K;try simp only [ly]
 refine tk 4 ?_;try simp only [ly]
 refine tk 5 ?_;try simp only [ly]
 refine tk0 6 ?_;try simp only [ly]
 refine tk0 7 ?_;try simp only [ly]
 refine tk0 8 ?_;try simp only [ly]
 refine tk0 9 ?_;try simp only [ly]
 refine tk0 10 ?_;try simp only [ly]
 refine tk 11 ?_;try simp only [ly]
 refine tk 12 ?_;try simp only [ly]
 refine tk0 13 ?_;try simp only [ly]
 refine tk0 14 ?_;try simp only [ly]
 refine tk0 15 ?_;try simp only [ly]
 refine tk0 16 ?_;try simp only [ly]
 refine tk0 17 ?_;try simp only [ly]
 refine tk 18 ?_;try simp only [ly]
 refine tk 19 ?_;try simp only [ly]
 refine tk0 20 ?_;try simp only [ly]
 refine tk0 21 ?_;try simp only [ly]
 refine tk0 22 ?_;try simp only [ly]
 refine tk0 23 ?_;try simp only [ly]
 refine tk0 24 ?_;try simp only [ly]
 refine tk 25 ?_;try simp only [ly]
 refine tk 26 ?_;try simp only [ly]
 refine wpAnyH_done (by kernel_rfl) ?_ _;go_wp2_with fail;go_ret;exact ⟨rfl,by assumption⟩
theorem meet_1 (la lp lb lq ma mp mb mq : Int) (w : World) (h0 : ((la == ma) && (lp == mp)) = false) (h1 : ((la == mb) && (lp == mq)) = true) : Calls Tryz.prog 124 #[lkA la lp lb lq,lkA ma mp mb mq] w fun e w'=>e = .returned (.bool true) /\ Below w.heap.size w w':=by
 have D0:=(Below.alN (Below.alN (Below.refl w.heap.size w) (.cells #[.int .i64 la,.int .i64 lp,.int .i64 lb,.int .i64 lq] 96)) (.cells #[.int .i64 ma,.int .i64 mp,.int .i64 mb,.int .i64 mq] 96)).drew;have M0:=(lm_new w (.int .i64 la) (.int .i64 lp) (.int .i64 lb) (.int .i64 lq) (.int .i64 ma) (.int .i64 mp) (.int .i64 mb) (.int .i64 mq) 96).drew;have FL : Hid (∀ w,Calls Tryz.prog 120 #[lkA la lp lb lq] w fun e w'=>e = .returned (plA la lp) /\ Below w.heap.size w w'):=fun w=>from_any _ _ _ _ w;have TL : Hid (∀ w,Calls Tryz.prog 121 #[lkA la lp lb lq] w fun e w'=>e = .returned (plA lb lq) /\ Below w.heap.size w w'):=fun w=>to_any _ _ _ _ w;have FM : Hid (∀ w,Calls Tryz.prog 120 #[lkA ma mp mb mq] w fun e w'=>e = .returned (plA ma mp) /\ Below w.heap.size w w'):=fun w=>from_any _ _ _ _ w;have TM : Hid (∀ w,Calls Tryz.prog 121 #[lkA ma mp mb mq] w fun e w'=>e = .returned (plA mb mq) /\ Below w.heap.size w w'):=fun w=>to_any _ _ _ _ w;have P0 : ∀ w,(binOp .eql 27 (plA la lp) (plA ma mp)).run Tryz.prog w = .ok (.bool false) w:=fun w=>by rw [place_eq,h0]
 have P1 : ∀ w,(binOp .eql 27 (plA la lp) (plA mb mq)).run Tryz.prog w = .ok (.bool true) w:=fun w=>by rw [place_eq,h1]
 clear h0 h1;go_enter Tryz.func124,Tryz.ntmps124;go_wp2_with fail;refine wp_region_held_drew (S:=(fun w'=>w'.cell? ⟨w.heap.size,0,none⟩ = some (.int .i64 la) /\ w'.cell? ⟨w.heap.size,1,none⟩ = some (.int .i64 lp) /\ w'.cell? ⟨w.heap.size,2,none⟩ = some (.int .i64 lb) /\ w'.cell? ⟨w.heap.size,3,none⟩ = some (.int .i64 lq) /\ w'.cell? ⟨w.heap.size + 1,0,none⟩ = some (.int .i64 ma) /\ w'.cell? ⟨w.heap.size + 1,1,none⟩ = some (.int .i64 mp) /\ w'.cell? ⟨w.heap.size + 1,2,none⟩ = some (.int .i64 mb) /\ w'.cell? ⟨w.heap.size + 1,3,none⟩ = some (.int .i64 mq))) (by kernel_rfl) (LM.cells (n:=w.heap.size) ‹_›) (fun hHeld=>?_);refine tk 0 ?_;try simp only [ly]
 refine tk 2 ?_;try simp only [ly]
 refine rd 1 (fun K hK=>?_);go_simp;refine (FL.out _).mono ?_;rintro e wz ⟨rfl,hbz⟩;have Dz:=chnN (W0:=w) hbz ‹_›;have Pz:=LM.keep (n:=w.heap.size) hbz ‹_›;clear hbz;try go_wp2_with fail
 clear hHeld;refine hK.out _ _ (LM.cells (n:=w.heap.size) ‹_›) (fun hHeld=>?_);clear hK K;try simp only [ly]
 refine rd 3 (fun K hK=>?_);go_simp;refine (FM.out _).mono ?_;rintro e wz ⟨rfl,hbz⟩;have Dz:=chnN (W0:=w) hbz ‹_›;have Pz:=LM.keep (n:=w.heap.size) hbz ‹_›;clear hbz;try go_wp2_with fail
 clear hHeld;refine hK.out _ _ (LM.cells (n:=w.heap.size) ‹_›) (fun hHeld=>?_);clear hK K;try simp only [ly]
 refine tk 4 ?_;try simp only [ly]
 refine tk 5 ?_;try simp only [ly]
 refine tk 6 ?_;try simp only [ly]
 refine tk 8 ?_;try simp only [ly]
 refine rd 7 (fun K hK=>?_);go_simp;refine (FL.out _).mono ?_;rintro e wz ⟨rfl,hbz⟩;have Dz:=chnN (W0:=w) hbz ‹_›;have Pz:=LM.keep (n:=w.heap.size) hbz ‹_›;clear hbz;try go_wp2_with fail
 clear hHeld;refine hK.out _ _ (LM.cells (n:=w.heap.size) ‹_›) (fun hHeld=>?_);clear hK K;try simp only [ly]
 refine rd 9 (fun K hK=>?_);go_simp;refine (TM.out _).mono ?_;rintro e wz ⟨rfl,hbz⟩;have Dz:=chnN (W0:=w) hbz ‹_›;have Pz:=LM.keep (n:=w.heap.size) hbz ‹_›;clear hbz;try go_wp2_with fail
 clear hHeld;refine hK.out _ _ (LM.cells (n:=w.heap.size) ‹_›) (fun hHeld=>?_);clear hK K;try simp only [ly]
 refine tk 10 ?_;try simp only [ly]
 refine tk 11 ?_;try simp only [ly]
 refine tk 12 ?_;try simp only [ly]
 refine tk0 13 ?_;try simp only [ly]
 refine tk0 14 ?_;try simp only [ly]
 refine tk0 15 ?_;try simp only [ly]
 refine tk0 16 ?_;try simp only [ly]
 refine tk0 17 ?_;try simp only [ly]
 refine tk 18 ?_;try simp only [ly]
 refine tk 19 ?_;try simp only [ly]
 refine tk0 20 ?_;try simp only [ly]
 refine tk0 21 ?_;try simp only [ly]
 refine tk0 22 ?_;try simp only [ly]
 refine tk0 23 ?_;try simp only [ly]
 refine tk0 24 ?_;try simp only [ly]
 refine tk 25 ?_;try simp only [ly]
 refine tk 26 ?_;try simp only [ly]
 refine wpAnyH_done (by kernel_rfl) ?_ _;go_wp2_with fail;go_ret;exact ⟨rfl,by assumption⟩
theorem meet_2 (la lp lb lq ma mp mb mq : Int) (w : World) (h0 : ((la == ma) && (lp == mp)) = false) (h1 : ((la == mb) && (lp == mq)) = false) (h2 : ((lb == ma) && (lq == mp)) = true) : Calls Tryz.prog 124 #[lkA la lp lb lq,lkA ma mp mb mq] w fun e w'=>e = .returned (.bool true) /\ Below w.heap.size w w':=by
 have D0:=(Below.alN (Below.alN (Below.refl w.heap.size w) (.cells #[.int .i64 la,.int .i64 lp,.int .i64 lb,.int .i64 lq] 96)) (.cells #[.int .i64 ma,.int .i64 mp,.int .i64 mb,.int .i64 mq] 96)).drew;have M0:=(lm_new w (.int .i64 la) (.int .i64 lp) (.int .i64 lb) (.int .i64 lq) (.int .i64 ma) (.int .i64 mp) (.int .i64 mb) (.int .i64 mq) 96).drew;have FL : Hid (∀ w,Calls Tryz.prog 120 #[lkA la lp lb lq] w fun e w'=>e = .returned (plA la lp) /\ Below w.heap.size w w'):=fun w=>from_any _ _ _ _ w;have TL : Hid (∀ w,Calls Tryz.prog 121 #[lkA la lp lb lq] w fun e w'=>e = .returned (plA lb lq) /\ Below w.heap.size w w'):=fun w=>to_any _ _ _ _ w;have FM : Hid (∀ w,Calls Tryz.prog 120 #[lkA ma mp mb mq] w fun e w'=>e = .returned (plA ma mp) /\ Below w.heap.size w w'):=fun w=>from_any _ _ _ _ w;have TM : Hid (∀ w,Calls Tryz.prog 121 #[lkA ma mp mb mq] w fun e w'=>e = .returned (plA mb mq) /\ Below w.heap.size w w'):=fun w=>to_any _ _ _ _ w;have P0 : ∀ w,(binOp .eql 27 (plA la lp) (plA ma mp)).run Tryz.prog w = .ok (.bool false) w:=fun w=>by rw [place_eq,h0]
 have P1 : ∀ w,(binOp .eql 27 (plA la lp) (plA mb mq)).run Tryz.prog w = .ok (.bool false) w:=fun w=>by rw [place_eq,h1]
 have P2 : ∀ w,(binOp .eql 27 (plA lb lq) (plA ma mp)).run Tryz.prog w = .ok (.bool true) w:=fun w=>by rw [place_eq,h2]
 clear h0 h1 h2;go_enter Tryz.func124,Tryz.ntmps124;go_wp2_with fail;refine wp_region_held_drew (S:=(fun w'=>w'.cell? ⟨w.heap.size,0,none⟩ = some (.int .i64 la) /\ w'.cell? ⟨w.heap.size,1,none⟩ = some (.int .i64 lp) /\ w'.cell? ⟨w.heap.size,2,none⟩ = some (.int .i64 lb) /\ w'.cell? ⟨w.heap.size,3,none⟩ = some (.int .i64 lq) /\ w'.cell? ⟨w.heap.size + 1,0,none⟩ = some (.int .i64 ma) /\ w'.cell? ⟨w.heap.size + 1,1,none⟩ = some (.int .i64 mp) /\ w'.cell? ⟨w.heap.size + 1,2,none⟩ = some (.int .i64 mb) /\ w'.cell? ⟨w.heap.size + 1,3,none⟩ = some (.int .i64 mq))) (by kernel_rfl) (LM.cells (n:=w.heap.size) ‹_›) (fun hHeld=>?_);refine tk 0 ?_;try simp only [ly]
 refine tk 2 ?_;try simp only [ly]
 refine rd 1 (fun K hK=>?_);go_simp;refine (FL.out _).mono ?_;rintro e wz ⟨rfl,hbz⟩;have Dz:=chnN (W0:=w) hbz ‹_›;have Pz:=LM.keep (n:=w.heap.size) hbz ‹_›;clear hbz;try go_wp2_with fail
 clear hHeld;refine hK.out _ _ (LM.cells (n:=w.heap.size) ‹_›) (fun hHeld=>?_);clear hK K;try simp only [ly]
 refine rd 3 (fun K hK=>?_);go_simp;refine (FM.out _).mono ?_;rintro e wz ⟨rfl,hbz⟩;have Dz:=chnN (W0:=w) hbz ‹_›;have Pz:=LM.keep (n:=w.heap.size) hbz ‹_›;clear hbz;try go_wp2_with fail
 clear hHeld;refine hK.out _ _ (LM.cells (n:=w.heap.size) ‹_›) (fun hHeld=>?_);clear hK K;try simp only [ly]
 refine tk 4 ?_;try simp only [ly]
 refine tk 5 ?_;try simp only [ly]
 refine tk 6 ?_;try simp only [ly]
 refine tk 8 ?_;try simp only [ly]
 refine rd 7 (fun K hK=>?_);go_simp;refine (FL.out _).mono ?_;rintro e wz ⟨rfl,hbz⟩;have Dz:=chnN (W0:=w) hbz ‹_›;have Pz:=LM.keep (n:=w.heap.size) hbz ‹_›;clear hbz;try go_wp2_with fail
 clear hHeld;refine hK.out _ _ (LM.cells (n:=w.heap.size) ‹_›) (fun hHeld=>?_);clear hK K;try simp only [ly]
 refine rd 9 (fun K hK=>?_);go_simp;refine (TM.out _).mono ?_;rintro e wz ⟨rfl,hbz⟩;have Dz:=chnN (W0:=w) hbz ‹_›;have Pz:=LM.keep (n:=w.heap.size) hbz ‹_›;clear hbz;try go_wp2_with fail
 clear hHeld;refine hK.out _ _ (LM.cells (n:=w.heap.size) ‹_›) (fun hHeld=>?_);clear hK K;try simp only [ly]
 refine tk 10 ?_;try simp only [ly]
 refine tk 11 ?_;try simp only [ly]
 refine tk 12 ?_;try simp only [ly]
 refine tk 13 ?_;try simp only [ly]
 refine tk 15 ?_;try simp only [ly]
 refine rd 14 (fun K hK=>?_);go_simp;refine (TL.out _).mono ?_;rintro e wz ⟨rfl,hbz⟩;have Dz:=chnN (W0:=w) hbz ‹_›;have Pz:=LM.keep (n:=w.heap.size) hbz ‹_›;clear hbz;try go_wp2_with fail
 clear hHeld;refine hK.out _ _ (LM.cells (n:=w.heap.size) ‹_›) (fun hHeld=>?_);clear hK K;try simp only [ly]
 refine rd 16 (fun K hK=>?_);go_simp;refine (FM.out _).mono ?_;rintro e wz ⟨rfl,hbz⟩;have Dz:=chnN (W0:=w) hbz ‹_›;have Pz:=LM.keep (n:=w.heap.size) hbz ‹_›;clear hbz;try go_wp2_with fail
 clear hHeld;refine hK.out _ _ (LM.cells (n:=w.heap.size) ‹_›) (fun hHeld=>?_);clear hK K;try simp only [ly]
 refine tk 17 ?_;try simp only [ly]
 refine tk 18 ?_;try simp only [ly]
 refine tk 19 ?_;try simp only [ly]
 refine tk0 20 ?_;try simp only [ly]
 refine tk0 21 ?_;try simp only [ly]
 refine tk0 22 ?_;try simp only [ly]
 refine tk0 23 ?_;try simp only [ly]
 refine tk0 24 ?_;try simp only [ly]
 refine tk 25 ?_;try simp only [ly]
 refine tk 26 ?_;try simp only [ly]
 refine wpAnyH_done (by kernel_rfl) ?_ _;go_wp2_with fail;go_ret;exact ⟨rfl,by assumption⟩
theorem meet_3 (la lp lb lq ma mp mb mq : Int) (x3 : Bool) (w : World) (h0 : ((la == ma) && (lp == mp)) = false) (h1 : ((la == mb) && (lp == mq)) = false) (h2 : ((lb == ma) && (lq == mp)) = false) (h3 : ((lb == mb) && (lq == mq)) = x3) : Calls Tryz.prog 124 #[lkA la lp lb lq,lkA ma mp mb mq] w fun e w'=>e = .returned (.bool x3) /\ Below w.heap.size w w':=by
 have D0:=(Below.alN (Below.alN (Below.refl w.heap.size w) (.cells #[.int .i64 la,.int .i64 lp,.int .i64 lb,.int .i64 lq] 96)) (.cells #[.int .i64 ma,.int .i64 mp,.int .i64 mb,.int .i64 mq] 96)).drew;have M0:=(lm_new w (.int .i64 la) (.int .i64 lp) (.int .i64 lb) (.int .i64 lq) (.int .i64 ma) (.int .i64 mp) (.int .i64 mb) (.int .i64 mq) 96).drew;have FL : Hid (∀ w,Calls Tryz.prog 120 #[lkA la lp lb lq] w fun e w'=>e = .returned (plA la lp) /\ Below w.heap.size w w'):=fun w=>from_any _ _ _ _ w;have TL : Hid (∀ w,Calls Tryz.prog 121 #[lkA la lp lb lq] w fun e w'=>e = .returned (plA lb lq) /\ Below w.heap.size w w'):=fun w=>to_any _ _ _ _ w;have FM : Hid (∀ w,Calls Tryz.prog 120 #[lkA ma mp mb mq] w fun e w'=>e = .returned (plA ma mp) /\ Below w.heap.size w w'):=fun w=>from_any _ _ _ _ w;have TM : Hid (∀ w,Calls Tryz.prog 121 #[lkA ma mp mb mq] w fun e w'=>e = .returned (plA mb mq) /\ Below w.heap.size w w'):=fun w=>to_any _ _ _ _ w;have P0 : ∀ w,(binOp .eql 27 (plA la lp) (plA ma mp)).run Tryz.prog w = .ok (.bool false) w:=fun w=>by rw [place_eq,h0]
 have P1 : ∀ w,(binOp .eql 27 (plA la lp) (plA mb mq)).run Tryz.prog w = .ok (.bool false) w:=fun w=>by rw [place_eq,h1]
 have P2 : ∀ w,(binOp .eql 27 (plA lb lq) (plA ma mp)).run Tryz.prog w = .ok (.bool false) w:=fun w=>by rw [place_eq,h2]
 have P3 : ∀ w,(binOp .eql 27 (plA lb lq) (plA mb mq)).run Tryz.prog w = .ok (.bool x3) w:=fun w=>by rw [place_eq,h3]
 clear h0 h1 h2 h3;go_enter Tryz.func124,Tryz.ntmps124;go_wp2_with fail;refine wp_region_held_drew (S:=(fun w'=>w'.cell? ⟨w.heap.size,0,none⟩ = some (.int .i64 la) /\ w'.cell? ⟨w.heap.size,1,none⟩ = some (.int .i64 lp) /\ w'.cell? ⟨w.heap.size,2,none⟩ = some (.int .i64 lb) /\ w'.cell? ⟨w.heap.size,3,none⟩ = some (.int .i64 lq) /\ w'.cell? ⟨w.heap.size + 1,0,none⟩ = some (.int .i64 ma) /\ w'.cell? ⟨w.heap.size + 1,1,none⟩ = some (.int .i64 mp) /\ w'.cell? ⟨w.heap.size + 1,2,none⟩ = some (.int .i64 mb) /\ w'.cell? ⟨w.heap.size + 1,3,none⟩ = some (.int .i64 mq))) (by kernel_rfl) (LM.cells (n:=w.heap.size) ‹_›) (fun hHeld=>?_);refine tk 0 ?_;try simp only [ly]
 refine tk 2 ?_;try simp only [ly]
 refine rd 1 (fun K hK=>?_);go_simp;refine (FL.out _).mono ?_;rintro e wz ⟨rfl,hbz⟩;have Dz:=chnN (W0:=w) hbz ‹_›;have Pz:=LM.keep (n:=w.heap.size) hbz ‹_›;clear hbz;try go_wp2_with fail
 clear hHeld;refine hK.out _ _ (LM.cells (n:=w.heap.size) ‹_›) (fun hHeld=>?_);clear hK K;try simp only [ly]
 refine rd 3 (fun K hK=>?_);go_simp;refine (FM.out _).mono ?_;rintro e wz ⟨rfl,hbz⟩;have Dz:=chnN (W0:=w) hbz ‹_›;have Pz:=LM.keep (n:=w.heap.size) hbz ‹_›;clear hbz;try go_wp2_with fail
 clear hHeld;refine hK.out _ _ (LM.cells (n:=w.heap.size) ‹_›) (fun hHeld=>?_);clear hK K;try simp only [ly]
 refine tk 4 ?_;try simp only [ly]
 refine tk 5 ?_;try simp only [ly]
 refine tk 6 ?_;try simp only [ly]
 refine tk 8 ?_;try simp only [ly]
 refine rd 7 (fun K hK=>?_);go_simp;refine (FL.out _).mono ?_;rintro e wz ⟨rfl,hbz⟩;have Dz:=chnN (W0:=w) hbz ‹_›;have Pz:=LM.keep (n:=w.heap.size) hbz ‹_›;clear hbz;try go_wp2_with fail
 clear hHeld;refine hK.out _ _ (LM.cells (n:=w.heap.size) ‹_›) (fun hHeld=>?_);clear hK K;try simp only [ly]
 refine rd 9 (fun K hK=>?_);go_simp;refine (TM.out _).mono ?_;rintro e wz ⟨rfl,hbz⟩;have Dz:=chnN (W0:=w) hbz ‹_›;have Pz:=LM.keep (n:=w.heap.size) hbz ‹_›;clear hbz;try go_wp2_with fail
 clear hHeld;refine hK.out _ _ (LM.cells (n:=w.heap.size) ‹_›) (fun hHeld=>?_);clear hK K;try simp only [ly]
 refine tk 10 ?_;try simp only [ly]
 refine tk 11 ?_;try simp only [ly]
 refine tk 12 ?_;try simp only [ly]
 refine tk 13 ?_;try simp only [ly]
 refine tk 15 ?_;try simp only [ly]
 refine rd 14 (fun K hK=>?_);go_simp;refine (TL.out _).mono ?_;rintro e wz ⟨rfl,hbz⟩;have Dz:=chnN (W0:=w) hbz ‹_›;have Pz:=LM.keep (n:=w.heap.size) hbz ‹_›;clear hbz;try go_wp2_with fail
 clear hHeld;refine hK.out _ _ (LM.cells (n:=w.heap.size) ‹_›) (fun hHeld=>?_);clear hK K;try simp only [ly]
 refine rd 16 (fun K hK=>?_);go_simp;refine (FM.out _).mono ?_;rintro e wz ⟨rfl,hbz⟩;have Dz:=chnN (W0:=w) hbz ‹_›;have Pz:=LM.keep (n:=w.heap.size) hbz ‹_›;clear hbz;try go_wp2_with fail
 clear hHeld;refine hK.out _ _ (LM.cells (n:=w.heap.size) ‹_›) (fun hHeld=>?_);clear hK K;try simp only [ly]
 refine tk 17 ?_;try simp only [ly]
 refine tk 18 ?_;try simp only [ly]
 refine tk 19 ?_;try simp only [ly]
 refine tk 20 ?_;try simp only [ly]
 refine tk 22 ?_;try simp only [ly]
 refine rd 21 (fun K hK=>?_);go_simp;refine (TL.out _).mono ?_;rintro e wz ⟨rfl,hbz⟩;have Dz:=chnN (W0:=w) hbz ‹_›;have Pz:=LM.keep (n:=w.heap.size) hbz ‹_›;clear hbz;try go_wp2_with fail
 clear hHeld;refine hK.out _ _ (LM.cells (n:=w.heap.size) ‹_›) (fun hHeld=>?_);clear hK K;try simp only [ly]
 refine rd 23 (fun K hK=>?_);go_simp;refine (TM.out _).mono ?_;rintro e wz ⟨rfl,hbz⟩;have Dz:=chnN (W0:=w) hbz ‹_›;have Pz:=LM.keep (n:=w.heap.size) hbz ‹_›;clear hbz;try go_wp2_with fail
 clear hHeld;refine hK.out _ _ (LM.cells (n:=w.heap.size) ‹_›) (fun hHeld=>?_);clear hK K;try simp only [ly]
 refine tk 24 ?_;try simp only [ly]
 refine tk 25 ?_;try simp only [ly]
 refine tk 26 ?_;try simp only [ly]
 refine wpAnyH_done (by kernel_rfl) ?_ _;go_wp2_with fail;go_ret;exact ⟨rfl,by assumption⟩
theorem meet_any (l m : Lk) (w : World) : Calls Tryz.prog 124 #[lkA l.a l.p l.b l.q,lkA m.a m.p m.b m.q] w fun e w'=>e = .returned (.bool (meetB l m)) /\ Below w.heap.size w w':=by
 unfold meetB;cases h0 : ((l.a == m.a) && (l.p == m.p))
 ·cases h1 : ((l.a == m.b) && (l.p == m.q))
  ·cases h2 : ((l.b == m.a) && (l.q == m.p))
   ·exact meet_3 _ _ _ _ _ _ _ _ _ w h0 h1 h2 rfl
   ·exact meet_2 _ _ _ _ _ _ _ _ w h0 h1 h2
  ·exact meet_1 _ _ _ _ _ _ _ _ w h0 h1
 ·exact meet_0 _ _ _ _ _ _ _ _ w h0
theorem link1_any (o l : Lk) (n0 : Nat) (w : World) (hT : Lk4 w n0 (.int .i64 l.a) (.int .i64 l.p) (.int .i64 l.b) (.int .i64 l.q)) :
  Calls Tryz.prog 123 #[lkA o.a o.p o.b o.q,.pointer (some ⟨n0,0,none⟩)] w fun e w'=>e = .returned (.bool (meetB o l)) /\ Below w.heap.size w w':=by
 have D0:=Below.alN (Below.refl w.heap.size w) (.cells #[.int .i64 o.a,.int .i64 o.p,.int .i64 o.b,.int .i64 o.q] 96);have T1:=hT.alloc (.cells #[.int .i64 o.a,.int .i64 o.p,.int .i64 o.b,.int .i64 o.q] 96);obtain ⟨l0,g0,g1,g2,g3⟩:=T1;have SM : Hid (∀ w,Calls Tryz.prog 124 #[lkA o.a o.p o.b o.q,lkA l.a l.p l.b l.q] w fun e w'=>e = .returned (.bool (meetB o l)) /\ Below w.heap.size w w'):=fun w=>meet_any o l w;clear hT;generalize meetB o l = x at *;generalize o.a = oa at *;generalize o.p = op at *;generalize o.b = ob at *;generalize o.q = oq at *;generalize l.a = la at *;generalize l.p = lp at *;generalize l.b = lb at *;generalize l.q = lq at *;go_enter Tryz.func123,Tryz.ntmps123;go_wp2_with fail;refine (SM.out _).mono ?_;rintro e w1 ⟨rfl,hb1⟩;have D1:=chnN hb1 D0;clear D0 hb1 g0 g1 g2 g3 SM;go_wp2_with fail;go_ret;exact ⟨rfl,D1⟩
theorem any_takeL {ls : List Lk} {k : Nat} {m l : Lk} (h : ls[k]? = some m) : (ls.take (k + 1)).any (fun m=>meetB m l) = ((ls.take k).any (fun m=>meetB m l) || meetB m l):=by
 obtain ⟨hk,e⟩:=List.getElem?_eq_some_iff.1 h;rw [List.take_succ_eq_append_getElem hk,e];simp
theorem linkIdx_any (A : Option Addr) (n cap : Nat) (ls : List Lk) (l : Lk) (n0 : Nat) (w : World) (hL : Hid (Links w.heap.size w (.slice A n cap) ls)) (hT : Hid (Lk4 w n0 (.int .i64 l.a) (.int .i64 l.p) (.int .i64 l.b) (.int .i64 l.q))) :
  Calls Tryz.prog 170 #[.slice A n cap,.func (.func 123) #[] #[.pointer (some ⟨n0,0,none⟩)]] w fun e w'=>∃ j : Int,e = .returned (.int .i64 j) /\ Hid (decide (0 <= j) = ls.any (fun m=>meetB m l)) /\ Below w.heap.size w w':=by
 obtain ⟨rfl,hc,hm⟩:=hL.out.len;unfold maxLen at hm;go_enter Tryz.func170,Tryz.ntmps170;go_wp2_with fail;go_loopw [8] (fun i wr=>∃ k : Nat,i = .int .i64 (k : Int) /\ k <= ls.length /\ Below w.heap.size w wr /\ Hid ((ls.take k).any (fun m=>meetB m l) = false)) (fun i _=>ls.length - (intOf i).toNat)
 case atStart=>exact ⟨0,rfl,by omega,Below.refl _ _,rfl⟩
 case round =>
  obtain ⟨k,rfl,hk,D1,hno⟩:=hrel;by_cases hlt : k < ls.length
  ·obtain ⟨m,hxk⟩ : ∃ m,ls[k]? = some m:=⟨_,List.getElem?_eq_getElem hlt⟩;obtain ⟨b,o,rfl,hb,c0,c1,c2,c3⟩:=(hL.out.below D1).at hxk;have PR : Hid (Calls Tryz.prog 123 #[lkA m.a m.p m.b m.q,.pointer (some ⟨n0,0,none⟩)] wr fun e w'=>e = .returned (.bool (meetB m l)) /\ Below wr.heap.size wr w'):=link1_any m l n0 wr (hT.out.below D1 hT.out.1);have HX : Hid (ls[k]? = some m):=hxk;have k1 : (0 : Int) <= (k : Int):=by omega
   have k2 : (k : Int) < (ls.length : Int):=by omega
   clear hL hxk hT;cases hv : meetB m l
   ·rw [hv] at PR;have HV : Hid ((ls.take (k + 1)).any (fun m=>meetB m l) = false):=by show _ = _;rw [any_takeL HX.out,hno.out,hv];rfl
    clear hv hno HX;generalize m.a = ma at *;generalize m.p = mp at *;generalize m.b = mb at *;generalize m.q = mq at *;go_wp2_with fail;refine PR.out.mono ?_;rintro e w2 ⟨rfl,hb2⟩;have D2:=chnN hb2 D1;clear hb2 D1 c0 c1 c2 c3 PR;go_wp2_with fail;go_roundw
    case rel=>exact ⟨k + 1,by go_num,by omega,D2,HV⟩
    case measure=>simp [intOf];omega
   ·rw [hv] at PR;have fin : Hid (ls.any (fun m=>meetB m l) = true):=List.any_eq_true.2 ⟨m,List.mem_of_getElem? HX.out,hv⟩;clear hv hno HX;generalize m.a = ma at *;generalize m.p = mp at *;generalize m.b = mb at *;generalize m.q = mq at *;go_wp2_with fail;refine PR.out.mono ?_;rintro e w2 ⟨rfl,hb2⟩;have D2:=chnN hb2 D1;clear hb2 D1 c0 c1 c2 c3 PR;go_wp2_with fail;go_ret;exact ⟨_,rfl,(by show _ = _;rw [fin.out];simp),D2⟩
  ·have fin : Hid (ls.any (fun m=>meetB m l) = false):=by
    have:=hno.out;rw [show k = ls.length by omega,List.take_length] at this;exact this
   go_wp2_with fail;go_ret;exact ⟨_,rfl,(by show _ = _;rw [fin.out];simp),D1⟩
theorem linkHas_any (A : Option Addr) (n cap : Nat) (ls : List Lk) (l : Lk) (n0 : Nat) (w : World) (hL : Hid (Links w.heap.size w (.slice A n cap) ls)) (hT : Hid (Lk4 w n0 (.int .i64 l.a) (.int .i64 l.p) (.int .i64 l.b) (.int .i64 l.q))) :
  Calls Tryz.prog 122 #[.slice A n cap,.func (.func 123) #[] #[.pointer (some ⟨n0,0,none⟩)]] w fun e w'=>e = .returned (.bool (ls.any (fun m=>meetB m l))) /\ Below w.heap.size w w':=by
 have IX : Hid (Calls Tryz.prog 170 #[.slice A n cap,.func (.func 123) #[] #[.pointer (some ⟨n0,0,none⟩)]] w fun e w'=>∃ j : Int,e = .returned (.int .i64 j) /\ Hid (decide (0 <= j) = ls.any (fun m=>meetB m l)) /\ Below w.heap.size w w'):=linkIdx_any A n cap ls l n0 w hL hT;clear hL hT;generalize ls.any (fun m=>meetB m l) = x at *;go_enter Tryz.func122,Tryz.ntmps122;go_wp2_with fail;refine IX.out.mono ?_;rintro e w2 ⟨j,rfl,hj,hb2⟩;clear IX;go_wp2_with fail;go_ret;exact ⟨by rw [hj.out];rfl,hb2⟩
theorem hasPlace_any (d p : Int) (A : Option Addr) (n cap : Nat) (vl : Value) (ds : List Dv) (w : World) (hD : Hid (Devs w.heap.size w (.slice A n cap) ds)) :
  Calls Tryz.prog 119 #[.agg #[.slice A n cap,vl],plA d p] w fun e w'=>e = .returned (.bool (isPl ds d p)) /\ Below w.heap.size w w':=by
 obtain ⟨rfl,hc,hm⟩:=hD.out.len;unfold maxLen at hm;have D0:=Below.alN (Below.alN (Below.refl w.heap.size w) (.cells #[.slice A ds.length cap,vl] 25)) (.cells #[.int .i64 d,.int .i64 p] 27);have B1:=(box2_new w (.slice A ds.length cap) vl 25).alloc (.cells #[.int .i64 d,.int .i64 p] 27);have B0:=box2_new (w.alloc (.cells #[.slice A ds.length cap,vl] 25)) (.int .i64 d) (.int .i64 p) 27;rw [World.size_alloc] at B0;obtain ⟨_,q0,q1,_⟩:=id B0;obtain ⟨_,q2,_,_⟩:=id B1;unfold isPl;cases h0 : decide (0 <= d)
 ·go_enter Tryz.func119,Tryz.ntmps119;go_wp2_with fail
  go_quiet (fail)
  go_wp2_with fail;go_ret;exact ⟨by simp,belowNN D0 _⟩
 cases h1 : decide (d < (ds.length : Int))
 ·go_enter Tryz.func119,Tryz.ntmps119;go_wp2_with fail
  go_quiet (fail)
  go_wp2_with fail;go_ret;exact ⟨by simp,belowNN D0 _⟩
 cases h2 : decide (0 <= p)
 ·go_enter Tryz.func119,Tryz.ntmps119;go_wp2_with fail
  go_quiet (fail)
  go_wp2_with fail;go_ret;exact ⟨by simp,belowNN D0 _⟩
 have hd0 : 0 <= d:=by simpa using h0
 have hd1 : d < (ds.length : Int):=by simpa using h1
 obtain ⟨i,rfl⟩ : ∃ i : Nat,d = (i : Int):=⟨d.toNat,by omega⟩;have hi : i < ds.length:=by omega
 obtain ⟨x,hx⟩ : ∃ x,ds[i]? = some x:=⟨_,List.getElem?_eq_getElem hi⟩;obtain ⟨b,o,vb,vr,vt,rfl,hb,_,_,_,c0,c1,c2,c3,c4,c5,c6⟩:=(hD.out.below D0).at hx;have ek : kindAt ds (i : Int) = x.kind:=by
  unfold kindAt;rw [Int.toNat_natCast,hx];rfl
 rw [ek];have PO : Hid (∀ w,Calls Tryz.prog 54 #[.int .i64 x.kind] w fun e w'=>e = .returned (.int .i64 (portsV x.kind)) /\ w' = w):=fun w=>nports_any x.kind w;clear hD hx ek c0 c2 c3 c4 c5 c6 hd0 hd1;generalize portsV x.kind = pk at *;generalize x.kind = kd at *;go_enter Tryz.func119,Tryz.ntmps119;go_wp2_with fail
 go_quiet ((go_at_call 54;exact Calls.quiet_of_same (PO.out _)))
 go_wp2_with fail;go_ret;exact ⟨by simp,belowNN D0 _⟩
def LB (w : World) (n : Nat) (x y a b c d : Value) : Prop:=Box2 w n x y /\ Lk4 w (n + 1) a b c d
theorem LB.cells {w : World} {n : Nat} {x y a b c d : Value} (H : LB w n x y a b c d) : w.cell? ⟨n,0,none⟩ = some x /\ w.cell? ⟨n,1,none⟩ = some y /\ w.cell? ⟨n + 1,0,none⟩ = some a /\ w.cell? ⟨n + 1,1,none⟩ = some b /\ w.cell? ⟨n + 1,2,none⟩ = some c /\ w.cell? ⟨n + 1,3,none⟩ = some d:=by
 obtain ⟨⟨_,h1,h2,_⟩,⟨_,h5,h6,h7,h8⟩⟩:=H;exact ⟨h1,h2,h5,h6,h7,h8⟩
theorem LB.keep {W w' : World} {n : Nat} {x y a b c d : Value} (hb : Below W.heap.size W w') (H : LB W n x y a b c d) : LB w' n x y a b c d:=⟨H.1.below hb H.1.1,H.2.below hb H.2.1⟩
theorem LB.drew {w : World} {n : Nat} {x y a b c d : Value} (H : LB w n x y a b c d) : LB w.drew n x y a b c d:=H
theorem lb_new (w : World) (x y a b c d : Value) (s t : TypeId) : LB ((w.alloc (.cells #[x,y] s)).alloc (.cells #[a,b,c,d] t)) w.heap.size x y a b c d:=by
 refine ⟨(box2_new w x y s).alloc _,?_⟩;have:=lk4_new (w.alloc (.cells #[x,y] s)) a b c d t;rw [World.size_alloc] at this;exact this
def linkTold (ds : List Dv) (ahead : List Lk) (l : Lk) : Int:=if isPl ds l.a l.p && isPl ds l.b l.q then (if selfB l || ahead.any (fun m=>meetB m l) then 5 else 0) else 1
theorem checkLink_any (A B : Option Addr) (cap cap' : Nat) (ds : List Dv) (ls : List Lk) (j : Nat) (l : Lk) (w : World) (hx : Hid (ls[j]? = some l)) (hD : Hid (Devs w.heap.size w (.slice A ds.length cap) ds)) (hL : Hid (Links w.heap.size w (.slice B ls.length cap') ls)) :
  Calls Tryz.prog 66 #[.agg #[.slice A ds.length cap,.slice B ls.length cap'],.int .i64 (j : Int)] w fun e w'=>e = .returned (.int .i64 (linkTold ds (ls.take j) l)) /\ Below w.heap.size w w':=by
 have hj : j < ls.length:=(List.getElem?_eq_some_iff.1 hx.out).1;obtain ⟨_,hc,hm⟩:=hL.out.len;unfold maxLen at hm;have D0:=Below.alN (Below.refl w.heap.size w) (.cells #[.slice A ds.length cap,.slice B ls.length cap'] 25);obtain ⟨b,o,rfl,hb,c0,c1,c2,c3⟩:=(hL.out.below D0).at hx.out;have k1 : (0 : Int) <= (j : Int):=by omega
 have k2 : (j : Int) < (ls.length : Int):=by omega
 have k3 : (j : Int) <= (cap' : Int):=by omega
 have FL : Hid (∀ w,Calls Tryz.prog 120 #[lkA l.a l.p l.b l.q] w fun e w'=>e = .returned (plA l.a l.p) /\ Below w.heap.size w w'):=fun w=>from_any _ _ _ _ w;have TL : Hid (∀ w,Calls Tryz.prog 121 #[lkA l.a l.p l.b l.q] w fun e w'=>e = .returned (plA l.b l.q) /\ Below w.heap.size w w'):=fun w=>to_any _ _ _ _ w;have I1 : Hid (∀ W,Below w.heap.size w W -> Calls Tryz.prog 119 #[.agg #[.slice A ds.length cap,.slice (some ⟨b,o,none⟩) ls.length cap'],plA l.a l.p] W fun e w'=>e = .returned (.bool (isPl ds l.a l.p)) /\ Below W.heap.size W w'):=fun W h=>hasPlace_any _ _ _ _ _ _ _ W ((hD.out.below h).mono h.size);have I2 : Hid (∀ W,Below w.heap.size w W -> Calls Tryz.prog 119 #[.agg #[.slice A ds.length cap,.slice (some ⟨b,o,none⟩) ls.length cap'],plA l.b l.q] W fun e w'=>e = .returned (.bool (isPl ds l.b l.q)) /\ Below W.heap.size W w'):=fun W h=>hasPlace_any _ _ _ _ _ _ _ W ((hD.out.below h).mono h.size);have CO : Hid (∀ W,Below w.heap.size w W -> LB W w.heap.size (.slice A ds.length cap) (.slice (some ⟨b,o,none⟩) ls.length cap') (.int .i64 l.a) (.int .i64 l.p) (.int .i64 l.b) (.int .i64 l.q) -> Calls Tryz.prog 122 #[.slice (some ⟨b,o,none⟩) j cap',.func (.func 123) #[] #[.pointer (some ⟨w.heap.size + 1,0,none⟩)]] W fun e w'=>e = .returned (.bool ((ls.take j).any (fun m=>meetB m l))) /\ Below W.heap.size W w'):=fun W h hT=>linkHas_any _ _ _ _ l _ W (Links.mono (SlAt.take (hL.out.below h) j (by omega)) h.size) hT.2;have PE : ∀ w,(binOp .eql 27 (plA l.a l.p) (plA l.b l.q)).run Tryz.prog w = .ok (.bool (selfB l)) w:=fun w=>place_eq _ _ _ _ w;generalize hres : linkTold ds (ls.take j) l = res;have HR : Hid (res = if isPl ds l.a l.p && isPl ds l.b l.q then (if selfB l || (ls.take j).any (fun m=>meetB m l) then 5 else 0) else 1):=hres.symm;clear hres hL hD hx;generalize isPl ds l.a l.p = x0 at *;generalize isPl ds l.b l.q = x1 at *;generalize selfB l = x2 at *;generalize (ls.take j).any (fun m=>meetB m l) = x3 at *;generalize l.a = la at *;generalize l.p = lp at *;generalize l.b = lb at *;generalize l.q = lq at *;have D1:=(Below.alN D0 (.cells #[.int .i64 la,.int .i64 lp,.int .i64 lb,.int .i64 lq] 96)).drew;have M1:=(lb_new w (.slice A ds.length cap) (.slice (some ⟨b,o,none⟩) ls.length cap') (.int .i64 la) (.int .i64 lp) (.int .i64 lb) (.int .i64 lq) 25 96).drew;clear D0;go_enter Tryz.func66,Tryz.ntmps66;go_wp2_with fail;go_region;clear c0 c1 c2 c3;have D2:=D1.drew;have M2:=M1.drew;clear D1 M1;cases x0
 ·have HV : Hid (res = 1):=by show _ = _;rw [HR.out];rfl
  clear HR I2 CO PE TL;go_wp2_with fail;refine wp_region_held_drew (S:=(fun w'=>w'.cell? ⟨w.heap.size,0,none⟩ = some (.slice A ds.length cap) /\ w'.cell? ⟨w.heap.size,1,none⟩ = some (.slice (some ⟨b,o,none⟩) ls.length cap') /\ w'.cell? ⟨w.heap.size + 1,0,none⟩ = some (.int .i64 la) /\ w'.cell? ⟨w.heap.size + 1,1,none⟩ = some (.int .i64 lp) /\ w'.cell? ⟨w.heap.size + 1,2,none⟩ = some (.int .i64 lb) /\ w'.cell? ⟨w.heap.size + 1,3,none⟩ = some (.int .i64 lq))) (by kernel_rfl) (LB.cells (n:=w.heap.size) ‹_›) (fun hHeld=>?_);refine tk 0 ?_;try simp only [ly]
  refine tk 1 ?_;try simp only [ly]
  refine rd 2 (fun K hK=>?_);go_simp;refine (FL.out _).mono ?_;rintro e wz ⟨rfl,hbz⟩;have Dz:=chnN (W0:=w) hbz ‹_›;have Pz:=LB.keep (n:=w.heap.size) hbz ‹_›;clear hbz;try go_wp2_with fail
  clear hHeld;refine hK.out _ _ (LB.cells (n:=w.heap.size) ‹_›) (fun hHeld=>?_);clear hK K;try simp only [ly]
  refine rd 3 (fun K hK=>?_);go_simp;refine (I1.out _ ‹_›).mono ?_;rintro e wz ⟨rfl,hbz⟩;have Dz:=chnN (W0:=w) hbz ‹_›;have Pz:=LB.keep (n:=w.heap.size) hbz ‹_›;clear hbz;try go_wp2_with fail
  clear hHeld;refine hK.out _ _ (LB.cells (n:=w.heap.size) ‹_›) (fun hHeld=>?_);clear hK K;try simp only [ly]
  refine tk 4 ?_;try simp only [ly]
  refine tk 5 ?_;try simp only [ly]
  refine tk0 6 ?_;try simp only [ly]
  refine tk0 7 ?_;try simp only [ly]
  refine tk0 8 ?_;try simp only [ly]
  refine tk0 9 ?_;try simp only [ly]
  refine tk0 10 ?_;try simp only [ly]
  refine tk 11 ?_;try simp only [ly]
  refine wpAnyH_done (by kernel_rfl) ?_ _;go_wp2_with fail;go_ret;exact ⟨by rw [HV.out];rfl,by assumption⟩
 ·have HR1 : Hid (res = if x1 then (if x2 || x3 then 5 else 0) else 1):=by show _ = _;rw [HR.out];rfl
  clear HR;go_wp2_with fail;refine wp_region_held_drew (S:=(fun w'=>w'.cell? ⟨w.heap.size,0,none⟩ = some (.slice A ds.length cap) /\ w'.cell? ⟨w.heap.size,1,none⟩ = some (.slice (some ⟨b,o,none⟩) ls.length cap') /\ w'.cell? ⟨w.heap.size + 1,0,none⟩ = some (.int .i64 la) /\ w'.cell? ⟨w.heap.size + 1,1,none⟩ = some (.int .i64 lp) /\ w'.cell? ⟨w.heap.size + 1,2,none⟩ = some (.int .i64 lb) /\ w'.cell? ⟨w.heap.size + 1,3,none⟩ = some (.int .i64 lq))) (by kernel_rfl) (LB.cells (n:=w.heap.size) ‹_›) (fun hHeld=>?_);refine tk 0 ?_;try simp only [ly]
  refine tk 1 ?_;try simp only [ly]
  refine rd 2 (fun K hK=>?_);go_simp;refine (FL.out _).mono ?_;rintro e wz ⟨rfl,hbz⟩;have Dz:=chnN (W0:=w) hbz ‹_›;have Pz:=LB.keep (n:=w.heap.size) hbz ‹_›;clear hbz;try go_wp2_with fail
  clear hHeld;refine hK.out _ _ (LB.cells (n:=w.heap.size) ‹_›) (fun hHeld=>?_);clear hK K;try simp only [ly]
  refine rd 3 (fun K hK=>?_);go_simp;refine (I1.out _ ‹_›).mono ?_;rintro e wz ⟨rfl,hbz⟩;have Dz:=chnN (W0:=w) hbz ‹_›;have Pz:=LB.keep (n:=w.heap.size) hbz ‹_›;clear hbz;try go_wp2_with fail
  clear hHeld;refine hK.out _ _ (LB.cells (n:=w.heap.size) ‹_›) (fun hHeld=>?_);clear hK K;try simp only [ly]
  refine tk 4 ?_;try simp only [ly]
  refine tk 5 ?_;try simp only [ly]
  refine tk 6 ?_;try simp only [ly]
  refine tk 7 ?_;try simp only [ly]
  refine rd 8 (fun K hK=>?_);go_simp;refine (TL.out _).mono ?_;rintro e wz ⟨rfl,hbz⟩;have Dz:=chnN (W0:=w) hbz ‹_›;have Pz:=LB.keep (n:=w.heap.size) hbz ‹_›;clear hbz;try go_wp2_with fail
  clear hHeld;refine hK.out _ _ (LB.cells (n:=w.heap.size) ‹_›) (fun hHeld=>?_);clear hK K;try simp only [ly]
  refine rd 9 (fun K hK=>?_);go_simp;refine (I2.out _ ‹_›).mono ?_;rintro e wz ⟨rfl,hbz⟩;have Dz:=chnN (W0:=w) hbz ‹_›;have Pz:=LB.keep (n:=w.heap.size) hbz ‹_›;clear hbz;try go_wp2_with fail
  clear hHeld;refine hK.out _ _ (LB.cells (n:=w.heap.size) ‹_›) (fun hHeld=>?_);clear hK K;try simp only [ly]
  refine tk 10 ?_;try simp only [ly]
  refine tk 11 ?_;try simp only [ly]
  refine wpAnyH_done (by kernel_rfl) ?_ _;cases x1
  ·go_wp2_with fail;go_ret;exact ⟨by rw [HR1.out];rfl,by assumption⟩
  clear D2 M2;cases x2
  ·have HV : Hid (res = if x3 then 5 else 0):=by show _ = _;rw [HR1.out];rfl
   clear HR1;go_wp2_with fail;refine wp_region_held_drew (S:=(fun w'=>w'.cell? ⟨w.heap.size,0,none⟩ = some (.slice A ds.length cap) /\ w'.cell? ⟨w.heap.size,1,none⟩ = some (.slice (some ⟨b,o,none⟩) ls.length cap') /\ w'.cell? ⟨w.heap.size + 1,0,none⟩ = some (.int .i64 la) /\ w'.cell? ⟨w.heap.size + 1,1,none⟩ = some (.int .i64 lp) /\ w'.cell? ⟨w.heap.size + 1,2,none⟩ = some (.int .i64 lb) /\ w'.cell? ⟨w.heap.size + 1,3,none⟩ = some (.int .i64 lq))) (by kernel_rfl) (LB.cells (n:=w.heap.size) (by first | assumption | exact Below.drew ‹_› | exact LB.drew ‹_›)) (fun hHeld=>?_);refine tk 0 ?_ (hS:=by first | assumption | exact Below.drew ‹_› | exact LB.drew ‹_›);try simp only [ly]
   refine tk 2 ?_ (hS:=by first | assumption | exact Below.drew ‹_› | exact LB.drew ‹_›);try simp only [ly]
   refine rd 1 (fun K hK=>?_);go_simp;refine (FL.out _).mono ?_;rintro e wz ⟨rfl,hbz⟩;have Dz:=chnN (W0:=w) hbz (by first | assumption | exact Below.drew ‹_› | exact LB.drew ‹_›);have Pz:=LB.keep (n:=w.heap.size) hbz (by first | assumption | exact Below.drew ‹_› | exact LB.drew ‹_›);clear hbz;try go_wp2_with fail
   clear hHeld;refine hK.out _ _ (LB.cells (n:=w.heap.size) (by first | assumption | exact Below.drew ‹_› | exact LB.drew ‹_›)) (fun hHeld=>?_);clear hK K;try simp only [ly]
   refine rd 3 (fun K hK=>?_);go_simp;refine (TL.out _).mono ?_;rintro e wz ⟨rfl,hbz⟩;have Dz:=chnN (W0:=w) hbz (by first | assumption | exact Below.drew ‹_› | exact LB.drew ‹_›);have Pz:=LB.keep (n:=w.heap.size) hbz (by first | assumption | exact Below.drew ‹_› | exact LB.drew ‹_›);clear hbz;try go_wp2_with fail
   clear hHeld;refine hK.out _ _ (LB.cells (n:=w.heap.size) (by first | assumption | exact Below.drew ‹_› | exact LB.drew ‹_›)) (fun hHeld=>?_);clear hK K;try simp only [ly]
   refine tk 4 ?_ (hS:=by first | assumption | exact Below.drew ‹_› | exact LB.drew ‹_›);try simp only [ly]
   refine tk 5 ?_ (hS:=by first | assumption | exact Below.drew ‹_› | exact LB.drew ‹_›);try simp only [ly]
   refine tk 6 ?_ (hS:=by first | assumption | exact Below.drew ‹_› | exact LB.drew ‹_›);try simp only [ly]
   refine tk 7 ?_ (hS:=by first | assumption | exact Below.drew ‹_› | exact LB.drew ‹_›);try simp only [ly]
   refine rd 8 (fun K hK=>?_);go_simp;refine (CO.out _ (by first | assumption | exact Below.drew ‹_› | exact LB.drew ‹_›) (by first | assumption | exact Below.drew ‹_› | exact LB.drew ‹_›)).mono ?_;rintro e wz ⟨rfl,hbz⟩;have Dz:=chnN (W0:=w) hbz (by first | assumption | exact Below.drew ‹_› | exact LB.drew ‹_›);have Pz:=LB.keep (n:=w.heap.size) hbz (by first | assumption | exact Below.drew ‹_› | exact LB.drew ‹_›);clear hbz;try go_wp2_with fail
   clear hHeld;refine hK.out _ _ (LB.cells (n:=w.heap.size) (by first | assumption | exact Below.drew ‹_› | exact LB.drew ‹_›)) (fun hHeld=>?_);clear hK K;try simp only [ly]
   refine tk 9 ?_ (hS:=by first | assumption | exact Below.drew ‹_› | exact LB.drew ‹_›);try simp only [ly]
   refine wpAnyH_done (by kernel_rfl) ?_ _;cases x3
   ·go_wp2_with fail;go_ret;exact ⟨by rw [HV.out];rfl,by first | assumption | exact Below.drew ‹_› | exact LB.drew ‹_›⟩
   ·go_wp2_with fail;go_ret;exact ⟨by rw [HV.out];rfl,by first | assumption | exact Below.drew ‹_› | exact LB.drew ‹_›⟩
  ·have HV : Hid (res = 5):=by show _ = _;rw [HR1.out];rfl
   clear HR1;go_wp2_with fail;refine wp_region_held_drew (S:=(fun w'=>w'.cell? ⟨w.heap.size,0,none⟩ = some (.slice A ds.length cap) /\ w'.cell? ⟨w.heap.size,1,none⟩ = some (.slice (some ⟨b,o,none⟩) ls.length cap') /\ w'.cell? ⟨w.heap.size + 1,0,none⟩ = some (.int .i64 la) /\ w'.cell? ⟨w.heap.size + 1,1,none⟩ = some (.int .i64 lp) /\ w'.cell? ⟨w.heap.size + 1,2,none⟩ = some (.int .i64 lb) /\ w'.cell? ⟨w.heap.size + 1,3,none⟩ = some (.int .i64 lq))) (by kernel_rfl) (LB.cells (n:=w.heap.size) (by first | assumption | exact Below.drew ‹_› | exact LB.drew ‹_›)) (fun hHeld=>?_);refine tk 0 ?_ (hS:=by first | assumption | exact Below.drew ‹_› | exact LB.drew ‹_›);try simp only [ly]
   refine tk 2 ?_ (hS:=by first | assumption | exact Below.drew ‹_› | exact LB.drew ‹_›);try simp only [ly]
   refine rd 1 (fun K hK=>?_);go_simp;refine (FL.out _).mono ?_;rintro e wz ⟨rfl,hbz⟩;have Dz:=chnN (W0:=w) hbz (by first | assumption | exact Below.drew ‹_› | exact LB.drew ‹_›);have Pz:=LB.keep (n:=w.heap.size) hbz (by first | assumption | exact Below.drew ‹_› | exact LB.drew ‹_›);clear hbz;try go_wp2_with fail
   clear hHeld;refine hK.out _ _ (LB.cells (n:=w.heap.size) (by first | assumption | exact Below.drew ‹_› | exact LB.drew ‹_›)) (fun hHeld=>?_);clear hK K;try simp only [ly]
   refine rd 3 (fun K hK=>?_);go_simp;refine (TL.out _).mono ?_;rintro e wz ⟨rfl,hbz⟩;have Dz:=chnN (W0:=w) hbz (by first | assumption | exact Below.drew ‹_› | exact LB.drew ‹_›);have Pz:=LB.keep (n:=w.heap.size) hbz (by first | assumption | exact Below.drew ‹_› | exact LB.drew ‹_›);clear hbz;try go_wp2_with fail
   clear hHeld;refine hK.out _ _ (LB.cells (n:=w.heap.size) (by first | assumption | exact Below.drew ‹_› | exact LB.drew ‹_›)) (fun hHeld=>?_);clear hK K;try simp only [ly]
   refine tk 4 ?_ (hS:=by first | assumption | exact Below.drew ‹_› | exact LB.drew ‹_›);try simp only [ly]
   refine tk 5 ?_ (hS:=by first | assumption | exact Below.drew ‹_› | exact LB.drew ‹_›);try simp only [ly]
   refine' wpAnyH_take (i:=6) (v:=undef) rfl (by kernel_rfl) (by kernel_rfl) (by kernel_rfl) (fun _ _ _ h=>h) (Or.inr ⟨by rfl,rfl⟩) (by first | assumption | exact Below.drew ‹_› | exact LB.drew ‹_›) ?gr31;try simp only [ly]
   refine' wpAnyH_take (i:=7) (v:=undef) rfl (by kernel_rfl) (by kernel_rfl) (by kernel_rfl) (fun _ _ _ h=>h) (Or.inr ⟨by rfl,rfl⟩) (by first | assumption | exact Below.drew ‹_› | exact LB.drew ‹_›) ?gr32;try simp only [ly]
   refine' wpAnyH_take (i:=8) (v:=undef) rfl (by kernel_rfl) (by kernel_rfl) (by kernel_rfl) (fun _ _ _ h=>h) (Or.inr ⟨by rfl,rfl⟩) (by first | assumption | exact Below.drew ‹_› | exact LB.drew ‹_›) ?gr33;try simp only [ly]
   refine tk 9 ?_ (hS:=by first | assumption | exact Below.drew ‹_› | exact LB.drew ‹_›);try simp only [ly]
   refine wpAnyH_done (by kernel_rfl) ?_ _;go_wp2_with fail;go_ret;exact ⟨by rw [HV.out];rfl,by first | assumption | exact Below.drew ‹_› | exact LB.drew ‹_›⟩
theorem indexI_any (A : Option Addr) (n cap : Nat) (bs : List Int) (x : Int) (base : Nat) (w : World) (hB : Hid (SlAt base w 1 IsI (.slice A n cap) bs)) :
  Calls Tryz.prog 26 #[.slice A n cap,.int .i64 x] w fun e w'=>∃ j : Int,e = .returned (.int .i64 j) /\ Hid (decide (0 <= j) = bs.any (fun y=>y == x)) /\ w' = w:=by
 obtain ⟨A',cap',e,_,h1,h2,_⟩:=id hB.out;cases e;unfold maxLen at h2;generalize hres : bs.any (fun y=>y == x) = res;have HR : Hid (bs.any (fun y=>y == x) = res):=hres;clear hres;go_enter Tryz.func26,Tryz.ntmps26;go_wp2_with fail
 go_loop [8] (fun i=>∃ k : Nat,i = .int .i64 (k : Int) /\ k <= bs.length /\ Hid ((bs.take k).any (fun y=>y == x) = false)) (fun i=>bs.length - (intOf i).toNat)
 case atStart=>exact ⟨0,rfl,by omega,rfl⟩
 case round =>
  obtain ⟨k,rfl,hk,hno⟩:=hrel;by_cases hlt : k < bs.length
  ·obtain ⟨y,hxk⟩ : ∃ y,bs[k]? = some y:=⟨_,List.getElem?_eq_getElem hlt⟩;obtain ⟨b,o,rfl,_,hcell⟩:=Ints.at hB.out hxk;have c0:=hcell k y hxk;have HT : Hid ((bs.take (k + 1)).any (fun z=>z == x) = ((bs.take k).any (fun z=>z == x) || (y == x))):=any_takeI hxk;have HM : Hid (y == x -> bs.any (fun y=>y == x) = true):=fun h=>List.any_eq_true.2 ⟨y,List.mem_of_getElem? hxk,h⟩;have k1 : (0 : Int) <= (k : Int):=by omega
   have k2 : (k : Int) < (bs.length : Int):=by omega
   clear hxk hcell hB;cases hv : (y == x)
   ·have hv2 : (x == y) = false:=by rw [BEq.comm];exact hv
    have HV : Hid ((bs.take (k + 1)).any (fun z=>z == x) = false):=by
     show _ = _;rw [HT.out,hno.out,hv];rfl
    clear HT HM hno hv;go_wp2_with fail
    go_round
    case rel=>exact ⟨k + 1,by go_num,by omega,HV⟩
    case measure=>simp [intOf];omega
   ·have hv2 : (x == y) = true:=by rw [BEq.comm];exact hv
    have HV : Hid (res = true):=by
     show _ = _;rw [<- HR.out,HM.out hv]
    clear HT HM hno hv;go_wp2_with fail;go_ret;exact ⟨_,rfl,(by show _ = _;rw [HV.out];simp),rfl⟩
  ·have HV : Hid (res = false):=by
    show _ = _;rw [<- HR.out];have:=hno.out;rw [show k = bs.length by omega,List.take_length] at this;exact this
   go_wp2_with fail;go_ret;exact ⟨_,rfl,(by show _ = _;rw [HV.out];simp),rfl⟩
theorem containsI_any (A : Option Addr) (n cap : Nat) (bs : List Int) (x : Int) (base : Nat) (w : World) (hB : Hid (SlAt base w 1 IsI (.slice A n cap) bs)) :
  Calls Tryz.prog 63 #[.slice A n cap,.int .i64 x] w fun e w'=>e = .returned (.bool (bs.any (fun y=>y == x))) /\ w' = w:=by
 have IX : Hid (∀ w',w' = w -> Calls Tryz.prog 26 #[.slice A n cap,.int .i64 x] w' fun e w'=>∃ j : Int,e = .returned (.int .i64 j) /\ Hid (decide (0 <= j) = bs.any (fun y=>y == x)) /\ w' = w):=fun w' h=>by subst h;exact indexI_any A n cap bs x base w' hB
 clear hB;generalize bs.any (fun y=>y == x) = v at *;go_enter Tryz.func63,Tryz.ntmps63;go_wp2_with fail;refine (IX.out _ rfl).mono ?_;rintro e w2 ⟨j,rfl,hj,rfl⟩;clear IX;go_wp2_with fail;go_ret;exact ⟨by rw [<- hj.out];rfl,rfl⟩
theorem backsFrom_vals (bs : List Int) (ad : Int) : ∀ (m k : Nat),bs.length - k <= m -> backsFrom bs ad k = 0 ∨ backsFrom bs ad k = 1
 | 0,k,h=>by rw [backsFrom_end (by omega)];simp
 | m + 1,k,h=>by
   by_cases hk : k < bs.length
   ·rw [backsFrom_at (List.getElem?_eq_getElem hk)]
    split
    ·exact backsFrom_vals bs ad m (k + 1) (by omega)
    ·simp
   ·rw [backsFrom_end (by omega)];simp
def backsF (k ad : Int) (bs : List Int) : Bool:=(decide (0 < bs.length) == (k == 5)) && decide (backsFrom bs ad 0 = 0)
theorem backsFit_loop (nm : ByteArray) (k ad : Int) (pl : Nat) (A : Option Addr) (cap : Nat) (bs : List Int) (vr vt : Value) (res : Bool) (w : World) (hB : Hid (SlAt w.heap.size w 1 IsI (.slice A bs.length cap) bs)) (hcap : bs.length <= cap) (hmax : cap <= maxLen) (hne : (decide (0 < bs.length) == (k == 5)) = true) (HR : Hid (decide (backsFrom bs ad 0 = 0) = res)) :
  Calls Tryz.prog 115 #[devA nm k ad pl (.slice A bs.length cap) vr vt] w fun e w'=>e = .returned (.bool res) /\ Below w.heap.size w w':=by
 unfold maxLen at hmax;have D0:=Below.alN (Below.refl w.heap.size w) (.cells #[.string nm,.int .i64 k,.int .i64 ad,.int .u8 (pl : Int),.slice A bs.length cap,vr,vt] 56);have V0:=seven_new w (.string nm) (.int .i64 k) (.int .i64 ad) (.int .u8 (pl : Int)) (.slice A bs.length cap) vr vt 56;have BW:=SlAt.below hB.out D0 (fun _ _ _ h=>h);have hne2 : (decide ((0 : Int) < (bs.length : Int)) == (k == 5)) = true:=by
  rw [<- hne]
  congr 1
  rw [decide_eq_decide];omega
 have hne3 : (decide (0 < bs.length)) = (k == 5):=eq_of_beq hne;have hne4 : (decide ((0 : Int) < (bs.length : Int))) = (k == 5):=eq_of_beq hne2;cases h5 : (k == 5);all_goals
  rw [h5] at hne3 hne4;clear hne hne2;go_enter Tryz.func115,Tryz.ntmps115;go_wp2_with fail
  go_loop [16] (fun i=>∃ j : Nat,i = .int .i64 (j : Int) /\ j <= bs.length /\ Hid (decide (backsFrom bs ad j = 0) = res)) (fun i=>bs.length - (intOf i).toNat)
  case atStart=>exact ⟨0,rfl,by omega,HR⟩
  case round =>
   obtain ⟨j,rfl,hj,hl⟩:=hrel;by_cases hlt : j < bs.length
   ·obtain ⟨x,hxk⟩ : ∃ x,bs[j]? = some x:=⟨_,List.getElem?_eq_getElem hlt⟩;obtain ⟨b,o,rfl,_,hcell⟩:=Ints.at BW hxk;have c0:=hcell j x hxk;have HT : Hid (backsFrom bs ad j = if (decide (0 <= x) && decide (x <= 15)) && !(x == ad) && !((bs.take j).any (fun y=>y == x)) then backsFrom bs ad (j + 1) else 1):=backsFrom_at hxk;have IA : Hid (∀ w,Calls Tryz.prog 165 #[.int .i64 x] w fun e w'=>e = .returned (.bool (addrB x)) /\ w' = w):=fun w=>isAddr_any x w;have CO : Hid (Calls Tryz.prog 63 #[.slice (some ⟨b,o,none⟩) j cap,.int .i64 x] (w.alloc (.cells #[.string nm,.int .i64 k,.int .i64 ad,.int .u8 (pl : Int),.slice (some ⟨b,o,none⟩) bs.length cap,vr,vt] 56)) fun e w'=>e = .returned (.bool ((bs.take j).any (fun y=>y == x))) /\ w' = (w.alloc (.cells #[.string nm,.int .i64 k,.int .i64 ad,.int .u8 (pl : Int),.slice (some ⟨b,o,none⟩) bs.length cap,vr,vt] 56))):=containsI_any _ j cap (bs.take j) x w.heap.size _ (SlAt.take BW j (by omega));have ea : (decide (0 <= x) && decide (x <= 15)) = addrB x:=by
     unfold addrB
     congr 1
     rw [decide_eq_decide];omega
    rw [ea] at HT;have k1 : (0 : Int) <= (j : Int):=by omega
    have k2 : (j : Int) < (bs.length : Int):=by omega
    have k3 : (j : Int) <= (cap : Int):=by omega
    obtain ⟨_,q0,q1,q2,q3,q4,q5,q6⟩:=id V0;clear hxk hcell hB ea BW;generalize addrB x = x0 at *;generalize (bs.take j).any (fun y=>y == x) = x2 at *;cases x0
    ·have HV : Hid (res = false):=by
      show _ = _;rw [<- hl.out,HT.out];simp
     clear HT hl;go_wp2_with (go_at_call 165;refine (IA.out _).mono ?_;rintro e w' ⟨rfl,rfl⟩);go_ret;exact ⟨by rw [HV.out];rfl,D0⟩
    ·cases x1 : (x == ad)
     ·cases x2
      ·have HV : Hid (decide (backsFrom bs ad (j + 1) = 0) = res):=by
        show _ = _;rw [<- hl.out,HT.out,x1];simp
       clear HT hl;go_wp2_with (first | (go_at_call 165;refine (IA.out _).mono ?_;rintro e w' ⟨rfl,rfl⟩) | (go_at_call 63;refine CO.out.mono ?_;rintro e w' ⟨rfl,rfl⟩))
       go_round
       case rel=>exact ⟨j + 1,by go_num,by omega,HV⟩
       case measure=>simp [intOf];omega
      ·have HV : Hid (res = false):=by
        show _ = _;rw [<- hl.out,HT.out,x1];simp
       clear HT hl;go_wp2_with (first | (go_at_call 165;refine (IA.out _).mono ?_;rintro e w' ⟨rfl,rfl⟩) | (go_at_call 63;refine CO.out.mono ?_;rintro e w' ⟨rfl,rfl⟩));go_ret;exact ⟨by rw [HV.out];rfl,D0⟩
     ·have HV : Hid (res = false):=by
       show _ = _;rw [<- hl.out,HT.out,x1];simp
      clear HT hl;go_wp2_with (go_at_call 165;refine (IA.out _).mono ?_;rintro e w' ⟨rfl,rfl⟩);go_ret;exact ⟨by rw [HV.out];rfl,D0⟩
   ·have HV : Hid (res = true):=by
     show _ = _;rw [<- hl.out,backsFrom_end (by omega)];rfl
    go_wp2_with fail;go_ret;exact ⟨by rw [HV.out];rfl,D0⟩
theorem backsFit_any (nm : ByteArray) (k ad : Int) (pl : Nat) (A : Option Addr) (cap : Nat) (bs : List Int) (vr vt : Value) (w : World) (hB : SlAt w.heap.size w 1 IsI (.slice A bs.length cap) bs) (hcap : bs.length <= cap) (hmax : cap <= maxLen) :
  Calls Tryz.prog 115 #[devA nm k ad pl (.slice A bs.length cap) vr vt] w fun e w'=>e = .returned (.bool (backsF k ad bs)) /\ Below w.heap.size w w':=by
 unfold backsF;cases hne : (decide (0 < bs.length) == (k == 5))
 ·rw [Bool.false_and];have D0:=Below.alN (Below.refl w.heap.size w) (.cells #[.string nm,.int .i64 k,.int .i64 ad,.int .u8 (pl : Int),.slice A bs.length cap,vr,vt] 56);have e1 : decide (0 < bs.length) = decide ((0 : Int) < (bs.length : Int)):=by
   rw [decide_eq_decide];omega
  rw [e1] at hne;clear e1 hB hcap hmax;cases h5 : (k == 5) <;> cases h0 : decide ((0 : Int) < (bs.length : Int))
  ·rw [h5,h0] at hne;cases hne
  ·clear hne;have n0 : 0 < bs.length:=by simpa using h0
   go_enter Tryz.func115,Tryz.ntmps115;go_wp2_with fail;go_ret;exact ⟨rfl,D0⟩
  ·clear hne;have n0 : ¬ 0 < bs.length:=by simpa using h0
   go_enter Tryz.func115,Tryz.ntmps115;go_wp2_with fail;go_ret;exact ⟨rfl,D0⟩
  ·rw [h5,h0] at hne;cases hne
 ·rw [Bool.true_and];exact backsFit_loop nm k ad pl A cap bs vr vt _ w hB hcap hmax hne rfl
def progDev (k ad : Int) (pl : Nat) (bs : List Int) (nr nt : Nat) (c : Int) : Int :=
 if (portsV k == 0) || !addrF k ad || !poolF k pl then 1 else if 3 < bs.length then 2 else if !backsF k ad bs || !listsF k nr nt then 1 else if 8 < nr then 2 else c
theorem progDev_eq (k ad : Int) (pl : Nat) (bs : List Int) (nr nt : Nat) (c : Int) : progDev k ad pl bs nr nt c = devV k ad pl bs nr nt c:=by
 have ea : addrB ad = (decide (0 <= ad) && decide (ad <= 15)):=by
  unfold addrB
  congr 1
  rw [decide_eq_decide];omega
 have eb : decide (backsFrom bs ad 0 = 0) = !decide (backsFrom bs ad 0 = 1):=by
  rcases backsFrom_vals bs ad bs.length 0 (by omega) with h | h <;> rw [h] <;> rfl
 have ep : (!((pl : Int) == 0)) = decide (0 < pl):=by
  rw [Bool.eq_iff_iff];simp;omega
 have el : decide (0 < bs.length) = !decide (bs.length = 0):=by
  rw [Bool.eq_iff_iff];simp only [decide_eq_true_eq,Bool.not_eq_true',decide_eq_false_iff_not];omega
 have er : decide (nr = 0) = !decide (0 < nr):=by
  rw [Bool.eq_iff_iff];simp
 have et : decide (nt = 0) = !decide (0 < nt):=by
  rw [Bool.eq_iff_iff];simp
 unfold progDev devV addrF poolF backsF listsF;rw [ea,eb,ep,el,er,et];have ek : (portsV k == 0) = !(decide (1 <= k) && decide (k <= 5)):=by
  unfold portsV;rw [Bool.eq_iff_iff];simp only [beq_iff_eq,Bool.not_eq_true',Bool.and_eq_false_iff,decide_eq_false_iff_not]
  split
  ·omega
  ·split
   ·omega
   ·split <;> omega
 rw [ek];cases hk : (decide (1 <= k) && decide (k <= 5))
 ·simp
 ·have hk' : 1 <= k /\ k <= 5:=by simpa using hk
  generalize (decide (0 <= ad) && decide (ad <= 15)) = x1;generalize decide (0 < pl) = x2;generalize decide (bs.length = 0) = x3;generalize decide (0 < nr) = x5;generalize decide (0 < nt) = x6;generalize (ad == 0) = x7;by_cases h4 : backsFrom bs ad 0 = 1;all_goals
   simp only [h4,decide_true,decide_false,if_true,if_false];have hkk : k = 1 ∨ k = 2 ∨ k = 3 ∨ k = 4 ∨ k = 5:=by omega
   rcases hkk with rfl | rfl | rfl | rfl | rfl <;> simp only [hasAddr] <;> cases x1 <;> cases x2 <;> cases x3 <;> cases x5 <;> cases x6 <;> cases x7 <;> simp
def devTold (ahead : List Dv) (d : Dv) : Int:=if nameOk d.name then (if ahead.any (fun x=>x.name.toList == d.name.toList) then 5 else devC d) else 3
theorem checkDevice_any (d : Dv) (vb vr vt : Value) (A : Option Addr) (n cap : Nat) (ahead : List Dv) (w : World) (hA : Devs w.heap.size w (.slice A n cap) ahead) (hb : SlAt w.heap.size w 1 IsI vb d.backs) (hr : SlAt w.heap.size w 5 IsRule vr d.rules) (ht : SlAt w.heap.size w 3 IsRoute vt d.routes) :
  Calls Tryz.prog 65 #[devA d.name d.kind d.addr d.pool vb vr vt,.slice A n cap] w fun e w'=>e = .returned (.int .i64 (devTold ahead d)) /\ Below w.heap.size w w':=by
 have FC : Hid (∀ W,Below w.heap.size w W -> Calls Tryz.prog 118 #[vt] W fun e w'=>e = .returned (.int .i64 (checkV (d.routes.map rtOf))) /\ Below W.heap.size W w'):=fun W h=>check_any W (routes_of (SlAt.mono (SlAt.below ht h (fun _ _ _ h=>h)) h.size (fun _ _ _ h=>h)));have FI : Hid (∀ W,Below w.heap.size w W -> Calls Tryz.prog 112 #[.slice A n cap,.string d.name] W fun e w'=>e = .returned (.tuple #[.int .i64 (if 0 <= findFrom ahead d.name.toList 0 then findFrom ahead d.name.toList 0 else 0),.bool (ahead.any (fun x=>x.name.toList == d.name.toList))]) /\ Below W.heap.size W w'):=fun W h=>by
  have:=find_any A n cap ahead d.name W ((hA.below h).mono h.size);rw [findFrom_some] at this;exact this
 have hb0:=hb;obtain ⟨Ab,cb,rfl,_,b1,b2,_⟩:=hb;obtain ⟨Ar,cr,rfl,_,r1,r2,_⟩:=hr;obtain ⟨At,ct,rfl,_,t1,t2,_⟩:=ht;have BF : Hid (∀ W,Below w.heap.size w W -> Calls Tryz.prog 115 #[devA d.name d.kind d.addr d.pool (.slice Ab d.backs.length cb) (.slice Ar d.rules.length cr) (.slice At d.routes.length ct)] W fun e w'=>e = .returned (.bool (backsF d.kind d.addr d.backs)) /\ Below W.heap.size W w'):=fun W h=>backsFit_any _ _ _ _ _ _ _ _ _ W (SlAt.mono (SlAt.below hb0 h (fun _ _ _ h=>h)) h.size (fun _ _ _ h=>h)) b1 b2;have NM : Hid (∀ w,Calls Tryz.prog 111 #[.string d.name] w fun e w'=>e = .returned (.bool (nameOk d.name)) /\ w' = w):=fun w=>isName_any d.name w;have PO : Hid (∀ w,Calls Tryz.prog 54 #[.int .i64 d.kind] w fun e w'=>e = .returned (.int .i64 (portsV d.kind)) /\ w' = w):=fun w=>nports_any d.kind w;have AF : Hid (∀ W,Calls Tryz.prog 113 #[devA d.name d.kind d.addr d.pool (.slice Ab d.backs.length cb) (.slice Ar d.rules.length cr) (.slice At d.routes.length ct)] W fun e w'=>e = .returned (.bool (addrF d.kind d.addr)) /\ Below W.heap.size W w'):=fun W=>addrFits_any _ _ _ _ _ _ _ W;have PF : Hid (∀ W,Calls Tryz.prog 114 #[devA d.name d.kind d.addr d.pool (.slice Ab d.backs.length cb) (.slice Ar d.rules.length cr) (.slice At d.routes.length ct)] W fun e w'=>e = .returned (.bool (poolF d.kind d.pool)) /\ Below W.heap.size W w'):=fun W=>poolFits_any _ _ _ _ _ _ _ W;have LF : Hid (∀ W,Calls Tryz.prog 116 #[devA d.name d.kind d.addr d.pool (.slice Ab d.backs.length cb) (.slice Ar d.rules.length cr) (.slice At d.routes.length ct)] W fun e w'=>e = .returned (.bool (listsF d.kind d.rules.length d.routes.length)) /\ Below W.heap.size W w'):=fun W=>listsFit_any _ _ _ _ _ _ _ _ _ _ _ W;have AC : Hid (∀ w,Calls Tryz.prog 117 #[.slice Ar d.rules.length cr] w fun e w'=>e = .returned (.int .i64 (if 8 < d.rules.length then 2 else 0)) /\ w' = w):=fun w=>aclCheck_any _ _ _ w;generalize hres : devTold ahead d = res;have HR : Hid (res = if nameOk d.name then (if ahead.any (fun x=>x.name.toList == d.name.toList) then 5 else if (portsV d.kind == 0) || !addrF d.kind d.addr || !poolF d.kind d.pool then 1 else if 3 < d.backs.length then 2 else if !backsF d.kind d.addr d.backs || !listsF d.kind d.rules.length d.routes.length then 1 else if 8 < d.rules.length then 2 else checkV (d.routes.map rtOf)) else 3):=by
  show _ = _;rw [<- hres];unfold devTold devC;rw [<- progDev_eq];rfl
 clear hres hA hb0;have D0:=Below.alN (Below.refl w.heap.size w) (.cells #[.string d.name,.int .i64 d.kind,.int .i64 d.addr,.int .u8 (d.pool : Int),.slice Ab d.backs.length cb,.slice Ar d.rules.length cr,.slice At d.routes.length ct] 56);have V0:=seven_new w (.string d.name) (.int .i64 d.kind) (.int .i64 d.addr) (.int .u8 (d.pool : Int)) (.slice Ab d.backs.length cb) (.slice Ar d.rules.length cr) (.slice At d.routes.length ct) 56;generalize nameOk d.name = x0 at *;generalize ahead.any (fun x=>x.name.toList == d.name.toList) = x1 at *;generalize (if 0 <= findFrom ahead d.name.toList 0 then findFrom ahead d.name.toList 0 else 0) = fi at *;generalize portsV d.kind = pk at *;generalize addrF d.kind d.addr = x3 at *;generalize poolF d.kind d.pool = x4 at *;generalize backsF d.kind d.addr d.backs = x5 at *;generalize listsF d.kind d.rules.length d.routes.length = x6 at *;generalize checkV (d.routes.map rtOf) = cv at *;generalize d.backs.length = nb at *;generalize d.rules.length = nr at *;generalize d.routes.length = nt at *;generalize d.name = nm at *;generalize d.kind = kd at *;generalize d.addr = ad at *;generalize d.pool = pl at *;go_enter Tryz.func65,Tryz.ntmps65;go_wp2_with fail;refine (NM.out _).mono ?_;rintro e w' ⟨rfl,rfl⟩;cases x0
 ·go_wp2_with fail;go_ret;exact ⟨by rw [HR.out];rfl,D0⟩
 go_wp2_with fail;refine (FI.out _ D0).mono ?_;rintro e w1 ⟨rfl,hb1⟩;have D1:=chnN hb1 D0;have V1:=V0.below hb1 V0.1;clear hb1 D0 V0 FI NM;obtain ⟨l1,q0,q1,q2,q3,q4,q5,q6⟩:=id V1;cases x1
 ·go_wp2_with fail;refine (PO.out _).mono ?_;rintro e w2 ⟨rfl,rfl⟩;cases hpk : (pk == 0)
  ·go_wp2_with fail;refine (AF.out _).mono ?_;rintro e w3 ⟨rfl,hb3⟩;have D3:=chnN hb3 D1;have V3:=V1.below hb3 V1.1;clear hb3 D1 V1 AF PO q0 q1 q2 q3 q4 q5 q6;obtain ⟨l3,q0,q1,q2,q3,q4,q5,q6⟩:=id V3;cases x3
   ·go_wp2_with fail;go_ret;exact ⟨by rw [HR.out,hpk];rfl,D3⟩
   go_wp2_with fail;refine (PF.out _).mono ?_;rintro e w4 ⟨rfl,hb4⟩;have D4:=chnN hb4 D3;have V4:=V3.below hb4 V3.1;clear hb4 D3 V3 PF q0 q1 q2 q3 q4 q5 q6;obtain ⟨l4,q0,q1,q2,q3,q4,q5,q6⟩:=id V4;cases x4
   ·go_wp2_with fail;go_ret;exact ⟨by rw [HR.out,hpk];rfl,D4⟩
   by_cases n3 : 3 < nb
   ·have u3 : decide ((3 : Int) < (nb : Int)) = true:=by simp;omega
    have HV : Hid (res = 2):=by show _ = _;rw [HR.out,hpk];simp [n3]
    go_wp2_with fail;go_ret;exact ⟨by rw [HV.out];rfl,D4⟩
   have u3 : decide ((3 : Int) < (nb : Int)) = false:=by simp;omega
   have HR2 : Hid (res = if !x5 || !x6 then 1 else if 8 < nr then 2 else cv):=by show _ = _;rw [HR.out,hpk];simp [n3]
   clear HR hpk;go_wp2_with fail;refine (BF.out _ D4).mono ?_;rintro e w5 ⟨rfl,hb5⟩;have D5:=chnN hb5 D4;have V5:=V4.below hb5 V4.1;clear hb5 D4 V4 BF q0 q1 q2 q3 q4 q5 q6;obtain ⟨l5,q0,q1,q2,q3,q4,q5,q6⟩:=id V5;cases x5
   ·go_wp2_with fail;go_ret;exact ⟨by rw [HR2.out];rfl,D5⟩
   go_wp2_with fail;refine (LF.out _).mono ?_;rintro e w6 ⟨rfl,hb6⟩;have D6:=chnN hb6 D5;have V6:=V5.below hb6 V5.1;clear hb6 D5 V5 LF q0 q1 q2 q3 q4 q5 q6;obtain ⟨l6,q0,q1,q2,q3,q4,q5,q6⟩:=id V6;cases x6
   ·go_wp2_with fail;go_ret;exact ⟨by rw [HR2.out];rfl,D6⟩
   by_cases h8 : 8 < nr
   ·have HV : Hid (res = 2):=by show _ = _;rw [HR2.out];simp [h8]
    rw [if_pos h8] at AC;go_wp2_with fail;refine (AC.out _).mono ?_;rintro e w7 ⟨rfl,rfl⟩;go_wp2_with fail;go_ret;exact ⟨by rw [HV.out];rfl,D6⟩
   ·have HV : Hid (res = cv):=by show _ = _;rw [HR2.out];simp [h8]
    rw [if_neg h8] at AC;go_wp2_with fail;refine (AC.out _).mono ?_;rintro e w7 ⟨rfl,rfl⟩;go_wp2_with fail;refine (FC.out _ D6).mono ?_;rintro e w8 ⟨rfl,hb8⟩;have D8:=chnN hb8 D6;go_wp2_with fail;go_ret;exact ⟨by rw [HV.out];rfl,D8⟩
  ·go_wp2_with fail;go_ret;exact ⟨by rw [HR.out,hpk];rfl,D1⟩
 ·go_wp2_with fail;go_ret;exact ⟨by rw [HR.out];rfl,D1⟩
theorem Seven.drew {w : World} {n : Nat} {a b c d e f g : Value} (h : Seven w n a b c d e f g) : Seven w.drew n a b c d e f g:=h
theorem net_row (A B : Option Addr) (cap cap' : Nat) (ds : List Dv) (ls : List Lk) (res : Int) (w : World) (hD : Hid (Devs w.heap.size w (.slice A ds.length cap) ds)) (hL : Hid (Links w.heap.size w (.slice B ls.length cap') ls)) (h10 : ds.length <= 10) (h15 : ls.length <= 15) (HR : Hid (res = if devsFrom ds 0 = 0 then linksFrom ds ls 0 else devsFrom ds 0)) :
  Calls Tryz.prog 29 #[.agg #[.slice A ds.length cap,.slice B ls.length cap']] w fun e w'=>e = .returned (.int .i64 res) /\ Below w.heap.size w w':=by
 obtain ⟨_,hc,hm⟩:=hD.out.len;obtain ⟨_,hc',hm'⟩:=hL.out.len;unfold maxLen at hm hm';have t10 : decide ((10 : Int) < (ds.length : Int)) = false:=by simp;omega
 have t15 : decide ((15 : Int) < (ls.length : Int)) = false:=by simp;omega
 have D0:=Below.alN (Below.refl w.heap.size w) (.cells #[.slice A ds.length cap,.slice B ls.length cap'] 25);have B0:=box2_new w (.slice A ds.length cap) (.slice B ls.length cap') 25;go_enter Tryz.func29,Tryz.ntmps29;go_wp2_with fail;go_loopw [21] (fun i wr=>∃ k : Nat,i = .int .i64 (k : Int) /\ k <= ds.length /\ Below w.heap.size w wr /\ Box2 wr w.heap.size (.slice A ds.length cap) (.slice B ls.length cap') /\ Hid (devsFrom ds 0 = devsFrom ds k)) (fun i _=>ds.length - (intOf i).toNat)
 case atStart=>exact ⟨0,rfl,by omega,D0,B0,rfl⟩
 case round =>
  clear D0 B0;obtain ⟨k,rfl,hk,D1,B1,hl⟩:=hrel;by_cases hlt : k < ds.length
  ·obtain ⟨d,hxk⟩ : ∃ d,ds[k]? = some d:=⟨_,List.getElem?_eq_getElem hlt⟩;obtain ⟨b,o,vb,vr,vt,rfl,hb,z1,z2,z3,c0,c1,c2,c3,c4,c5,c6⟩:=(hD.out.below D1).at hxk;obtain ⟨Ab,cb,rfl,_,_,_,_⟩:=z1;obtain ⟨Ar,cr,rfl,_,_,_,_⟩:=z2;obtain ⟨At,ct,rfl,_,_,_,_⟩:=z3;have HF : Hid (devsFrom ds k = if devTold (ds.take k) d = 0 then devsFrom ds (k + 1) else devTold (ds.take k) d):=devsFrom_at hxk;have CD : Hid (∀ W,Below w.heap.size w W -> Calls Tryz.prog 65 #[devA d.name d.kind d.addr d.pool (.slice Ab d.backs.length cb) (.slice Ar d.rules.length cr) (.slice At d.routes.length ct),.slice (some ⟨b,o,none⟩) k cap] W fun e w'=>e = .returned (.int .i64 (devTold (ds.take k) d)) /\ Below W.heap.size W w'):=fun W h=>by
    have hd:=hD.out.below h;obtain ⟨b',o',vb',vr',vt',e1,_,s1,s2,s3,q0,q1,q2,q3,q4,q5,q6⟩:=hd.at hxk;cases e1;have g4:=(D1.cell (p:=⟨b,o + k * 7 + 4,none⟩) hb).symm.trans c4;have g5:=(D1.cell (p:=⟨b,o + k * 7 + 5,none⟩) hb).symm.trans c5;have g6:=(D1.cell (p:=⟨b,o + k * 7 + 6,none⟩) hb).symm.trans c6;have f4:=(h.cell (p:=⟨b,o + k * 7 + 4,none⟩) hb).symm.trans q4;have f5:=(h.cell (p:=⟨b,o + k * 7 + 5,none⟩) hb).symm.trans q5;have f6:=(h.cell (p:=⟨b,o + k * 7 + 6,none⟩) hb).symm.trans q6;obtain rfl:=Option.some.inj (g4.symm.trans f4);obtain rfl:=Option.some.inj (g5.symm.trans f5);obtain rfl:=Option.some.inj (g6.symm.trans f6);exact checkDevice_any d _ _ _ _ k cap (ds.take k) W (Devs.mono (SlAt.take hd k (by omega)) h.size) (SlAt.mono s1 h.size (fun _ _ _ h=>h)) (SlAt.mono s2 h.size (fun _ _ _ h=>h)) (SlAt.mono s3 h.size (fun _ _ _ h=>h))
   have k1 : (0 : Int) <= (k : Int):=by omega
   have k2 : (k : Int) < (ds.length : Int):=by omega
   have k3 : (k : Int) <= (cap : Int):=by omega
   have lw:=D1.size;clear hxk;generalize devTold (ds.take k) d = dv at *;generalize d.backs.length = nb at *;generalize d.rules.length = nr at *;generalize d.routes.length = nt at *;generalize d.name = nm at *;generalize d.kind = kd at *;generalize d.addr = ad at *;generalize d.pool = pl at *;have D2:=Below.alN D1 (.cells #[.string nm,.int .i64 kd,.int .i64 ad,.int .u8 (pl : Int),.slice Ab nb cb,.slice Ar nr cr,.slice At nt ct] 56);have B2:=B1.alloc (.cells #[.string nm,.int .i64 kd,.int .i64 ad,.int .u8 (pl : Int),.slice Ab nb cb,.slice Ar nr cr,.slice At nt ct] 56);have V2:=seven_new wr (.string nm) (.int .i64 kd) (.int .i64 ad) (.int .u8 (pl : Int)) (.slice Ab nb cb) (.slice Ar nr cr) (.slice At nt ct) 56;have D3:=D2.drew;obtain ⟨_,f0,f1,_⟩:=id B2;obtain ⟨_,v0,v1,v2,v3,v4,v5,v6⟩:=id V2;clear hD hL;go_wp2_with fail;go_region_held3 (fun w'=>w'.cell? ⟨w.heap.size,0,none⟩ = some (.slice (some ⟨b,o,none⟩) ds.length cap) /\ w'.cell? ⟨wr.heap.size,0,none⟩ = some (.string nm) /\ w'.cell? ⟨wr.heap.size,1,none⟩ = some (.int .i64 kd) /\ w'.cell? ⟨wr.heap.size,2,none⟩ = some (.int .i64 ad) /\ w'.cell? ⟨wr.heap.size,3,none⟩ = some (.int .u8 (pl : Int)) /\ w'.cell? ⟨wr.heap.size,4,none⟩ = some (.slice Ab nb cb) /\ w'.cell? ⟨wr.heap.size,5,none⟩ = some (.slice Ar nr cr) /\ w'.cell? ⟨wr.heap.size,6,none⟩ = some (.slice At nt ct)) (go_keep) ((go_at_call 65;refine (CD.out _ D3).mono ?_;rintro e w2 ⟨rfl,hb2⟩;have D4:=chnN hb2 D3;have B4:=B2.drew.below hb2 B2.1;have V4:=V2.drew.below hb2 V2.1;obtain ⟨_,p0,p1,_⟩:=id B4;obtain ⟨_,r0,r1,r2,r3,r4,r5,r6⟩:=id V4))
   clear c0 c1 c2 c3 c4 c5 c6 f0 f1 v0 v1 v2 v3 v4 v5 v6 D1 D2 D3 B1 B2 V2 hb2 CD;cases h0 : (dv == 0)
   ·have HV : Hid (res = dv):=by
     have hne : ¬ dv = 0:=by simpa using h0
     show _ = _;rw [HR.out,hl.out,HF.out,if_neg hne,if_neg hne]
    go_wp2_with fail;go_ret;exact ⟨by rw [HV.out];rfl,D4⟩
   ·have HV : Hid (devsFrom ds 0 = devsFrom ds (k + 1)):=by
     have he : dv = 0:=by simpa using h0
     show _ = _;rw [hl.out,HF.out,if_pos he]
    go_wp2_with fail;go_roundw
    case rel=>exact ⟨k + 1,by go_num,by omega,D4,B4,HV⟩
    case measure=>simp [intOf];omega
  ·have HZ : Hid (res = linksFrom ds ls 0):=by
    show _ = _;rw [HR.out,hl.out,devsFrom_end (by omega),if_pos rfl]
   clear hl HR;obtain ⟨_,g0,g1,_⟩:=id B1;go_wp2_with fail;go_loopw [39] (fun i wr=>∃ k : Nat,i = .int .i64 (k : Int) /\ k <= ls.length /\ Below w.heap.size w wr /\ Box2 wr w.heap.size (.slice A ds.length cap) (.slice B ls.length cap') /\ Hid (res = linksFrom ds ls k)) (fun i _=>ls.length - (intOf i).toNat)
   case atStart=>exact ⟨0,rfl,by omega,D1,B1,HZ⟩
   case round =>
    clear D1 B1 HZ g0 g1;obtain ⟨j,rfl,hj,D1,B1,hl⟩:=hrel;by_cases hjl : j < ls.length
    ·obtain ⟨l,hxk⟩ : ∃ l,ls[j]? = some l:=⟨_,List.getElem?_eq_getElem hjl⟩;have HF : Hid (linksFrom ds ls j = if linkTold ds (ls.take j) l = 0 then linksFrom ds ls (j + 1) else linkTold ds (ls.take j) l):=linksFrom_at hxk;have HX : Hid (ls[j]? = some l):=hxk;have CD : Hid (∀ W,Below w.heap.size w W -> Calls Tryz.prog 66 #[.agg #[.slice A ds.length cap,.slice B ls.length cap'],.int .i64 (j : Int)] W fun e w'=>e = .returned (.int .i64 (linkTold ds (ls.take j) l)) /\ Below W.heap.size W w'):=fun W h=>checkLink_any A B cap cap' ds ls j l W HX ((hD.out.below h).mono h.size) ((hL.out.below h).mono h.size);have lw:=D1.size;obtain ⟨_,g0,g1,_⟩:=id B1;clear hxk HX hD hL;generalize linkTold ds (ls.take j) l = dv at *;go_wp2_with fail;refine (CD.out _ D1).mono ?_;rintro e w2 ⟨rfl,hb2⟩;have D4:=chnN hb2 D1;have B4:=B1.below hb2 B1.1;clear D1 B1 hb2 CD g0 g1;cases h0 : (dv == 0)
     ·have HV : Hid (res = dv):=by
       have hne : ¬ dv = 0:=by simpa using h0
       show _ = _;rw [hl.out,HF.out,if_neg hne]
      go_wp2_with fail;go_ret;exact ⟨by rw [HV.out];rfl,D4⟩
     ·have HV : Hid (res = linksFrom ds ls (j + 1)):=by
       have he : dv = 0:=by simpa using h0
       show _ = _;rw [hl.out,HF.out,if_pos he]
      go_wp2_with fail;go_roundw
      case rel=>exact ⟨j + 1,by go_num,by omega,D4,B4,HV⟩
      case measure=>simp [intOf];omega
    ·have HV : Hid (res = 0):=by
      show _ = _;rw [hl.out,linksFrom_end (by omega)]
     go_wp2_with fail;go_ret;exact ⟨by rw [HV.out];rfl,D1⟩
theorem net_any (vd vl : Value) (ds : List Dv) (ls : List Lk) (w : World) (hD : Devs w.heap.size w vd ds) (hL : Links w.heap.size w vl ls) :
  Calls Tryz.prog 29 #[.agg #[vd,vl]] w fun e w'=>e = .returned (.int .i64 (netV ds ls)) /\ Below w.heap.size w w':=by
 have hD0:=hD;have hL0:=hL;obtain ⟨A,cap,rfl,_,_,_,_⟩:=hD;obtain ⟨B,cap',rfl,_,_,_,_⟩:=hL;unfold netV;by_cases h : 10 < ds.length ∨ 15 < ls.length
 ·rw [if_pos h];have D0:=Below.alN (Below.refl w.heap.size w) (.cells #[.slice A ds.length cap,.slice B ls.length cap'] 25);clear hD0 hL0;by_cases h10 : 10 < ds.length
  ·have t10 : decide ((10 : Int) < (ds.length : Int)) = true:=by simp;omega
   clear h;go_enter Tryz.func29,Tryz.ntmps29;go_wp2_with fail;go_ret;exact ⟨rfl,D0⟩
  ·have t10 : decide ((10 : Int) < (ds.length : Int)) = false:=by simp;omega
   have t15 : decide ((15 : Int) < (ls.length : Int)) = true:=by simp;omega
   clear h;go_enter Tryz.func29,Tryz.ntmps29;go_wp2_with fail;go_ret;exact ⟨rfl,D0⟩
 ·rw [if_neg h];exact net_row A B cap cap' ds ls _ w hD0 hL0 (by omega) (by omega) rfl
end Go.Proofs.YtppbfikimalojaaGreat
namespace Go.Proofs.YtppbfikimalojaaGreat
open Go.RowKit Go.Maps
theorem bdd_few (m : Int) (w : World) (h : m < 2 ∨ 40000 < m) : Calls Tryz.prog 30 #[.int .i64 14,.int .i64 m] w fun e w'=>e = .returned (.tuple #[.pointer none,.int .i64 1]) /\ w' = w:=by
 by_cases h1 : m < 2
 ·have t1 : decide (m < 2) = true:=by simp [h1]
  go_enter Tryz.func30,Tryz.ntmps30;go_wp2_with fail;go_ret2;exact ⟨rfl,rfl⟩
 ·have t1 : decide (m < 2) = false:=by simp;omega
  have t2 : decide (40000 < m) = true:=by simp;omega
  go_enter Tryz.func30,Tryz.ntmps30;go_wp2_with fail;go_ret2;exact ⟨rfl,rfl⟩
theorem rnew_net (vd vl : Value) (ds : List Dv) (ls : List Lk) (m : Int) (w : World) (hD : Devs w.heap.size w vd ds) (hL : Links w.heap.size w vl ls) (hz : netV ds ls ≠ 0) :
  Calls Tryz.prog 6 #[.agg #[vd,vl],.int .i64 m] w fun e w'=>e = .returned (.tuple #[.pointer none,.int .i64 (netV ds ls)]) /\ Below w.heap.size w w':=by
 have D1 : Below w.heap.size w (w.alloc (.cells #[vd,vl] 25)):=(Below.refl _ w).alloc (Nat.le_refl _) _;have CK : Hid (Calls Tryz.prog 29 #[.agg #[vd,vl]] (w.alloc (.cells #[vd,vl] 25)) fun e w'=>e = .returned (.int .i64 (netV ds ls)) /\ Below w.heap.size w w'):=(net_any vd vl ds ls _ ((hD.below D1).mono D1.size) ((hL.below D1).mono D1.size)).mono fun e w' h=>⟨h.1,D1.trans (h.2.mono D1.size)⟩;clear hD hL D1;generalize netV ds ls = z at *;go_enter Tryz.func6,Tryz.ntmps6;go_wp2_with fail;with_reducible refine CK.out.mono ?_
 rintro e w1 ⟨rfl,hb1⟩;go_wp2_with fail;go_ret2;exact ⟨rfl,hb1⟩
theorem rnew_most (vd vl : Value) (ds : List Dv) (ls : List Lk) (m : Int) (w : World) (hD : Devs w.heap.size w vd ds) (hL : Links w.heap.size w vl ls) (hz : netV ds ls = 0) (hm : m < 2 ∨ 40000 < m) :
  Calls Tryz.prog 6 #[.agg #[vd,vl],.int .i64 m] w fun e w'=>e = .returned (.tuple #[.pointer none,.int .i64 1]) /\ Below w.heap.size w w':=by
 have D1 : Below w.heap.size w (w.alloc (.cells #[vd,vl] 25)):=(Below.refl _ w).alloc (Nat.le_refl _) _;have CK : Hid (Calls Tryz.prog 29 #[.agg #[vd,vl]] (w.alloc (.cells #[vd,vl] 25)) fun e w'=>e = .returned (.int .i64 0) /\ Below w.heap.size w w'):=(net_any vd vl ds ls _ ((hD.below D1).mono D1.size) ((hL.below D1).mono D1.size)).mono fun e w' h=>⟨by rw [h.1,hz],D1.trans (h.2.mono D1.size)⟩;have BN : Hid (∀ W,Calls Tryz.prog 30 #[.int .i64 14,.int .i64 m] W fun e w'=>e = .returned (.tuple #[.pointer none,.int .i64 1]) /\ w' = W):=fun W=>bdd_few m W hm;clear hD hL D1 hm hz;go_enter Tryz.func6,Tryz.ntmps6;go_wp2_with fail;with_reducible refine CK.out.mono ?_
 rintro e w1 ⟨rfl,hb1⟩;go_wp2_with fail;with_reducible refine (BN.out _).mono ?_
 rintro e w2 ⟨rfl,hw2⟩;obtain rfl:=hw2.symm;go_wp2_with fail;go_ret2;exact ⟨rfl,hb1⟩
end Go.Proofs.YtppbfikimalojaaGreat
