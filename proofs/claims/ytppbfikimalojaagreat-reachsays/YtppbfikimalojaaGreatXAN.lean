/-
  XAN.
-/
import Derived.Test.YtppbfikimalojaaGreatXAA
import Derived.Test.YtppbfikimalojaaGreatXAM
import Derived.Deep.RegionHeld3
import Derived.Test.YtppbfikimalojaaGreatXLy
import Derived.Laws.MakeOwn
set_option maxHeartbeats 8000000
set_option maxRecDepth 100000
namespace Go.Proofs.YtppbfikimalojaaGreat
open Go.RowKit Go.Maps
abbrev Tab:=(Int × Int) -> Nat -> Int
open Classical in
noncomputable def tabP (T : Tab) (k : Int) (P : (Int × Int) -> Nat -> Prop) : Tab:=fun t c=>if T t c < 0 /\ P t c then k + 1 else T t c
open Classical in
noncomputable def moreP (bl : (Int × Int) -> Option Nat) (T : Tab) (P : (Int × Int) -> Nat -> Prop) : Bool:=decide (∃ t c,(bl t).isSome = true /\ c < 16384 /\ T t c < 0 /\ P t c)
def addP (P : (Int × Int) -> Nat -> Prop) (t : Option (Int × Int)) (c : Nat) : (Int × Int) -> Nat -> Prop:=fun t' c'=>P t' c' ∨ (t = some t' /\ c' = c)
def wasB (T : Tab) (k : Int) (t : Int × Int) (c : Nat) : Bool:=decide (0 <= T t c) && decide (T t c <= k)
abbrev PutS:=(Int × Int) -> Nat -> Prop
def pkN (c : Nat) : Pk:=⟨((c / 1024 : Nat) : Int),((c / 64 % 16 : Nat) : Int),((c / 8 % 8 : Nat) : Int),((c % 8 : Nat) : Int)⟩
def codeN (p : Pk) : Nat:=(p.s * 1024 + p.d * 64 + p.sp * 8 + p.dp).toNat
theorem pkN_ok {c : Nat} (h : c < 16384) : pkOk (pkN c) = true:=by
 unfold pkN;exact pk_made (by dsimp only;omega) (by dsimp only;omega) (by dsimp only;omega) (by dsimp only;omega)
theorem codeN_pkN (c : Nat) : codeN (pkN c) = c:=by
 unfold codeN pkN;dsimp only;omega
theorem codeN_lt {p : Pk} (h : pkOk p = true) : codeN p < 16384:=by
 obtain ⟨h1,h2,h3,h4⟩:=pk_bounds h;unfold codeN;omega
theorem pkN_codeN {p : Pk} (h : pkOk p = true) : pkN (codeN p) = p:=by
 obtain ⟨h1,h2,h3,h4⟩:=pk_bounds h;obtain ⟨s,d,sp,dp⟩:=p;dsimp only at *;unfold pkN codeN;dsimp only;generalize hc : (s * 1024 + d * 64 + sp * 8 + dp).toNat = c;have hc' : (c : Int) = s * 1024 + d * 64 + sp * 8 + dp:=by omega
 have e1 : ((c / 1024 : Nat) : Int) = s:=by omega
 have e2 : ((c / 64 % 16 : Nat) : Int) = d:=by omega
 have e3 : ((c / 8 % 8 : Nat) : Int) = sp:=by omega
 have e4 : ((c % 8 : Nat) : Int) = dp:=by omega
 rw [e1,e2,e3,e4]
def wasS (T : Tab) (k : Int) : PSet:=fun t p=>pkOk p = true /\ wasB T k t (codeN p) = true
theorem wasS_N {T : Tab} {k : Int} {t : Int × Int} {c : Nat} (hc : c < 16384) : wasS T k t (pkN c) ↔ wasB T k t c = true:=by
 unfold wasS;rw [codeN_pkN];exact ⟨fun h=>h.2,fun h=>⟨pkN_ok hc,h⟩⟩
section
variable {d : Dv} {i : Int} {ls : List Lk} {T : Tab} {k : Int}
def one2 (d : Dv) (i : Int) (ls : List Lk) (T : Tab) (k : Int) (q : Int) (c : Nat) : PutS:=fun t c'=>wasB T k (i,q) c = true /\ c' = c /\ outB (routesOf d) (pkN c).d = true /\ letsD d (pkN c) = true /\ peerF ls i (outN (routesOf d) (pkN c).d) = some t
def one3 (d : Dv) (i : Int) (ls : List Lk) (T : Tab) (k : Int) (q : Int) (c : Nat) : PutS:=fun t c'=>wasB T k (i,q) c = true /\ c' = c /\ ((q = 0 /\ letsD d (pkN c) = true /\ peerF ls i 1 = some t) ∨ (q = 1 /\ (peerF ls i 1).isSome = true /\ wasB T k (i,0) (codeN (flipP (pkN c))) = true /\ letsD d (flipP (pkN c)) = true /\ peerF ls i 0 = some t))
def one4 (d : Dv) (i : Int) (ls : List Lk) (T : Tab) (k : Int) (os : List Pk) (q : Int) (c : Nat) : PutS:=fun t c'=>wasB T k (i,q) c = true /\ ((q = 0 /\ ∃ x : Nat,x < 8 /\ poolB d (x : Int) = true /\ peerF ls i 1 = some t /\ c' = codeN ⟨d.addr,(pkN c).d,(x : Int),(pkN c).dp⟩) ∨ (q = 1 /\ (pkN c).d = d.addr /\ poolB d (pkN c).dp = true /\ ∃ o ∈ os,peerF ls i 0 = some t /\ c' = codeN ⟨(pkN c).s,o.s,(pkN c).sp,o.sp⟩))
def one5 (d : Dv) (i : Int) (ls : List Lk) (T : Tab) (k : Int) (q : Int) (c : Nat) : PutS:=fun t c'=>wasB T k (i,q) c = true /\
 (((q = 1 ∨ ¬ (pkN c).d = d.addr) /\ peerF ls i (1 - q) = some t /\ c' = c) ∨
  (q = 0 /\ (pkN c).d = d.addr /\ ∃ b ∈ d.backs,peerF ls i 1 = some t /\ c' = codeN ⟨(pkN c).s,b,(pkN c).sp,(pkN c).dp⟩) ∨
  (q = 1 /\ (peerF ls i 1).isSome = true /\ (pkN c).s ∈ d.backs /\ wasB T k (i,0) (codeN ⟨(pkN c).d,d.addr,(pkN c).dp,(pkN c).sp⟩) = true /\ peerF ls i 0 = some t /\ c' = codeN ⟨d.addr,(pkN c).d,(pkN c).sp,(pkN c).dp⟩))
def OwnL (i : Int) (T : Tab) (k : Int) (os : List Pk) : Prop:=∀ s sp : Int,(∃ o ∈ os,o.s = s /\ o.sp = sp) ↔ ∃ x y,wasS T k (i,0) ⟨s,x,sp,y⟩
def devP (d : Dv) (i : Int) (ls : List Lk) (T : Tab) (k : Int) : PutS:=fun t c=>c < 16384 /\ ∃ o,peerF ls i o = some t /\ sendR d i (wasS T k) o (pkN c)
def sumP (n : Int) (one : Int -> Nat -> PutS) : PutS:=fun t c'=>∃ (q : Int) (c : Nat),0 <= q /\ q < n /\ c < 16384 /\ one q c t c'
theorem flip_ok {p : Pk} (h : pkOk p = true) : pkOk (flipP p) = true:=by
 obtain ⟨h1,h2,h3,h4⟩:=pk_bounds h;exact pk_made h2 h1 h4 h3
theorem dev2 (hk : d.kind = 2) : sumP 4 (one2 d i ls T k) = devP d i ls T k:=by
 funext t c'
 refine propext ⟨?_,?_⟩
 ·rintro ⟨q,c,h0,h1,h2,h3,rfl,h4,h5,h6⟩;refine ⟨h2,_,h6,?_⟩;unfold sendR;rw [if_pos hk];exact ⟨q,h0,h1,(wasS_N h2).2 h3,h5,h4,rfl⟩
 ·rintro ⟨hc,o,hp,hs⟩;unfold sendR at hs;rw [if_pos hk] at hs;obtain ⟨q,h0,h1,h2,h3,h4,h5⟩:=hs;exact ⟨q,c',h0,h1,hc,(wasS_N hc).1 h2,rfl,h4,h3,by rw [h5];exact hp⟩
theorem dev3 (hk : d.kind = 3) (hO : ∀ c,c < 16384 -> wasB T k (i,1) c = true -> (peerF ls i 1).isSome = true) : sumP 2 (one3 d i ls T k) = devP d i ls T k:=by
 funext t c'
 refine propext ⟨?_,?_⟩
 ·rintro ⟨q,c,h0,h1,h2,h3,rfl,h4⟩;rcases h4 with ⟨rfl,h4,h5⟩ | ⟨rfl,h4,h5,h6,h7⟩
  ·refine ⟨h2,1,h5,?_⟩;unfold sendR;rw [if_neg (by omega),if_pos hk,if_pos rfl];exact ⟨(wasS_N h2).2 h3,h4⟩
  ·refine ⟨h2,0,h7,?_⟩;unfold sendR;rw [if_neg (by omega),if_pos hk,if_neg (by omega)];exact ⟨rfl,(wasS_N h2).2 h3,⟨flip_ok (pkN_ok h2),h5⟩,h6⟩
 ·rintro ⟨hc,o,hp,hs⟩;unfold sendR at hs;rw [if_neg (by omega),if_pos hk] at hs;by_cases ho : o = 1
  ·subst ho;rw [if_pos rfl] at hs;exact ⟨0,c',by omega,by omega,hc,(wasS_N hc).1 hs.1,rfl,Or.inl ⟨rfl,hs.2,hp⟩⟩
  ·rw [if_neg ho] at hs;obtain ⟨rfl,h1,h2,h3⟩:=hs;have h1':=(wasS_N hc).1 h1;exact ⟨1,c',by omega,by omega,hc,h1',rfl,Or.inr ⟨rfl,hO _ hc h1',h2.2,h3,hp⟩⟩
theorem dev4 (hk : d.kind = 4) (ha : 0 <= d.addr /\ d.addr < 16) {os : List Pk} (hos : OwnL i T k os) : sumP 2 (one4 d i ls T k os) = devP d i ls T k:=by
 funext t c'
 refine propext ⟨?_,?_⟩
 ·rintro ⟨q,c,h0,h1,h2,h3,h4⟩;obtain ⟨b1,b2,b3,b4⟩:=pk_bounds (pkN_ok h2);rcases h4 with ⟨rfl,x,hx,h4,h5,rfl⟩ | ⟨rfl,h4,h5,o,ho,h6,rfl⟩
  ·have hp : pkOk ⟨d.addr,(pkN c).d,(x : Int),(pkN c).dp⟩ = true:=pk_made ha b2 (by dsimp only;omega) b4;refine ⟨codeN_lt hp,1,h5,?_⟩;rw [pkN_codeN hp];unfold sendR;rw [if_neg (by omega),if_neg (by omega),if_pos hk,if_pos rfl];exact ⟨rfl,h4,(pkN c).s,(pkN c).sp,(wasS_N h2).2 h3⟩
  ·obtain ⟨x,y,h7⟩:=(hos o.s o.sp).1 ⟨o,ho,rfl,rfl⟩;obtain ⟨c1,c2,c3,c4⟩:=pk_bounds h7.1;have hp : pkOk ⟨(pkN c).s,o.s,(pkN c).sp,o.sp⟩ = true:=pk_made b1 c1 b3 c3;refine ⟨codeN_lt hp,0,h6,?_⟩;rw [pkN_codeN hp];unfold sendR;rw [if_neg (by omega),if_neg (by omega),if_pos hk,if_neg (by omega)];refine ⟨rfl,⟨(pkN c).dp,h5,?_⟩,x,y,h7⟩;rw [<- h4];exact (wasS_N h2).2 h3
 ·rintro ⟨hc,o,hp,hs⟩;obtain ⟨b1,b2,b3,b4⟩:=pk_bounds (pkN_ok hc);unfold sendR at hs;rw [if_neg (by omega),if_neg (by omega),if_pos hk] at hs;by_cases ho : o = 1
  ·subst ho;rw [if_pos rfl] at hs;obtain ⟨h1,h2,s,sp,h3⟩:=hs;refine ⟨0,codeN ⟨s,(pkN c').d,sp,(pkN c').dp⟩,by omega,by omega,codeN_lt h3.1,h3.2,Or.inl ⟨rfl,(pkN c').sp.toNat,by omega,by rw [show (((pkN c').sp.toNat : Nat) : Int) = (pkN c').sp by omega];exact h2,hp,?_⟩⟩;rw [pkN_codeN h3.1,<- h1,show (((pkN c').sp.toNat : Nat) : Int) = (pkN c').sp by omega];exact (codeN_pkN c').symm
  ·rw [if_neg ho] at hs;obtain ⟨rfl,⟨kk,h1,h2⟩,x,y,h3⟩:=hs;obtain ⟨o,ho,e1,e2⟩:=(hos (pkN c').d (pkN c').dp).2 ⟨x,y,h3⟩;refine ⟨1,codeN ⟨(pkN c').s,d.addr,(pkN c').sp,kk⟩,by omega,by omega,codeN_lt h2.1,h2.2,Or.inr ⟨rfl,?_,?_,o,ho,hp,?_⟩⟩
   ·rw [pkN_codeN h2.1]
   ·rw [pkN_codeN h2.1];exact h1
   ·rw [pkN_codeN h2.1,e1,e2];exact (codeN_pkN c').symm
theorem dev5 (hk : d.kind = 5) (ha : 0 <= d.addr /\ d.addr < 16) (hbs : ∀ b ∈ d.backs,0 <= b /\ b < 16) (hO : ∀ c,c < 16384 -> wasB T k (i,1) c = true -> (peerF ls i 1).isSome = true) : sumP 2 (one5 d i ls T k) = devP d i ls T k:=by
 funext t c'
 refine propext ⟨?_,?_⟩
 ·rintro ⟨q,c,h0,h1,h2,h3,h4⟩;obtain ⟨b1,b2,b3,b4⟩:=pk_bounds (pkN_ok h2);rcases h4 with ⟨h4,h5,rfl⟩ | ⟨rfl,h4,b,hb,h5,rfl⟩ | ⟨rfl,h4,h5,h6,h7,rfl⟩
  ·refine ⟨h2,1 - q,h5,?_⟩;unfold sendR;rw [if_neg (by omega),if_neg (by omega),if_neg (by omega),if_pos hk];by_cases hq : q = 0
   ·subst hq;rw [if_pos (by omega)];rcases h4 with h4 | h4
    ·omega
    ·exact Or.inl ⟨(wasS_N h2).2 h3,h4⟩
   ·obtain rfl : q = 1:=by omega
    rw [if_neg (by omega)];exact ⟨by omega,Or.inl ((wasS_N h2).2 h3)⟩
  ·have hp : pkOk ⟨(pkN c).s,b,(pkN c).sp,(pkN c).dp⟩ = true:=pk_made b1 (hbs b hb) b3 b4;refine ⟨codeN_lt hp,1,h5,?_⟩;rw [pkN_codeN hp];unfold sendR;rw [if_neg (by omega),if_neg (by omega),if_neg (by omega),if_pos hk,if_pos rfl];refine Or.inr ⟨hb,?_⟩;rw [<- h4];exact (wasS_N h2).2 h3
  ·have hp : pkOk ⟨d.addr,(pkN c).d,(pkN c).sp,(pkN c).dp⟩ = true:=pk_made ha b2 b3 b4;refine ⟨codeN_lt hp,0,h7,?_⟩;rw [pkN_codeN hp];unfold sendR;rw [if_neg (by omega),if_neg (by omega),if_neg (by omega),if_pos hk,if_neg (by omega)];refine ⟨rfl,Or.inr ⟨rfl,(pkN c).s,h5,(wasS_N h2).2 h3,?_⟩⟩;exact ⟨pk_made b2 ha b4 b3,h6⟩
 ·rintro ⟨hc,o,hp,hs⟩;obtain ⟨b1,b2,b3,b4⟩:=pk_bounds (pkN_ok hc);unfold sendR at hs;rw [if_neg (by omega),if_neg (by omega),if_neg (by omega),if_pos hk] at hs;by_cases ho : o = 1
  ·subst ho;rw [if_pos rfl] at hs;rcases hs with ⟨h1,h2⟩ | ⟨h1,h2⟩
   ·exact ⟨0,c',by omega,by omega,hc,(wasS_N hc).1 h1,Or.inl ⟨Or.inr h2,hp,rfl⟩⟩
   ·refine ⟨0,codeN ⟨(pkN c').s,d.addr,(pkN c').sp,(pkN c').dp⟩,by omega,by omega,codeN_lt h2.1,h2.2,Or.inr (Or.inl ⟨rfl,?_,(pkN c').d,h1,hp,?_⟩)⟩
    ·rw [pkN_codeN h2.1]
    ·rw [pkN_codeN h2.1];exact (codeN_pkN c').symm
  ·rw [if_neg ho] at hs;obtain ⟨rfl,h1 | ⟨h1,b,hb,h2,h3⟩⟩:=hs
   ·exact ⟨1,c',by omega,by omega,hc,(wasS_N hc).1 h1,Or.inl ⟨Or.inl rfl,hp,rfl⟩⟩
   ·refine ⟨1,codeN ⟨b,(pkN c').d,(pkN c').sp,(pkN c').dp⟩,by omega,by omega,codeN_lt h2.1,h2.2,Or.inr (Or.inr ⟨rfl,hO _ (codeN_lt h2.1) h2.2,?_,?_,hp,?_⟩)⟩
    ·rw [pkN_codeN h2.1];exact hb
    ·rw [pkN_codeN h2.1];exact h3.2
    ·rw [pkN_codeN h2.1,<- h1];exact (codeN_pkN c').symm
theorem devNone (hk : ¬ (d.kind = 2 ∨ d.kind = 3 ∨ d.kind = 4 ∨ d.kind = 5)) : devP d i ls T k = fun _ _=>False:=by
 funext t c'
 refine propext ⟨?_,fun h=>h.elim⟩;rintro ⟨hc,o,hp,hs⟩;unfold sendR at hs;rw [if_neg (by omega),if_neg (by omega),if_neg (by omega),if_neg (by omega)] at hs;exact hs
end
theorem lawPlc : Keyed Tryz.prog 27:=Keyed.of_law (deep_law_gate (k:=27) laidS (by rw [sizeS];decide) (by rw [sizeS];decide) (by kernel_rfl) (by kernel_rfl))
theorem keyPlc (n : Int × Int) (h : prtOk n) : keyOf Tryz.prog 27 (prtV n) = some (litOfS 27 (prtV n)):=by
 obtain ⟨w1,w2⟩:=h;unfold i64ok at w1 w2;obtain ⟨m,hm⟩:=fuelS;refine litOfS_some ?_;unfold keyOf;simp only [Tryz.underlying27];rw [if_pos (by kernel_rfl),hm];unfold Program.keyLits;simp only [Tryz.underlying27,Value.cells];rw [if_pos ⟨by kernel_rfl,by kernel_rfl⟩];simp [Program.keyLits,Tryz.underlying3,w1,w2,cInt]
noncomputable def plcE : KeyEncW 27 (Int × Int):=⟨prtV,prtOk,fun n=>litOfS 27 (prtV n),lawPlc,keyPlc,prtV_inj⟩
def rowV : Option Nat -> Value
 | none=>.slice none 0 0
 | some b=>.slice (some ⟨b,0,none⟩) 16384 16384
def rowD : Option Nat -> DataW Unit
 | none=>.lit (.int .i64 (-1))
 | some b=>.lit (.int .i64 (b : Int))
def rowR : Value -> Option (DataW Unit × List MemPlace)
 | .slice none n c=>if n = 0 /\ c = 0 then some (rowD none,[]) else none
 | .slice (some a) n c=>if a = ⟨a.block,0,none⟩ /\ n = 16384 /\ c = 16384 then some (rowD (some a.block),[]) else none
 | _=>none
theorem rowR_inv (v : Value) (z : DataW Unit × List MemPlace) (h : rowR v = some z) : ∃ x,v = rowV x /\ z = (rowD x,[]):=by
 unfold rowR at h
 split at h
 ·split at h
  ·rename_i hc
   obtain ⟨rfl,rfl⟩:=hc;cases h;exact ⟨none,rfl,rfl⟩
  ·cases h
 ·split at h
  ·rename_i a n c hc
   obtain ⟨h1,rfl,rfl⟩:=hc;cases h;refine ⟨some a.block,?_,rfl⟩;rw [h1];rfl
  ·cases h
 ·cases h
theorem rowD_inj (x y : Option Nat) (h : rowD x = rowD y) : x = y:=by
 cases x <;> cases y <;> simp [rowD] at h ⊢ <;> omega
theorem zeroR (w : World) : (zeroValue 50).run Tryz.prog w = .ok (.slice none 0 0) w:=by kernel_rfl
noncomputable def rowE : ElEnc 50 (Option Nat):=⟨rowV,rowR,rowD,fun x=>by cases x <;> simp [rowV,rowR],rowR_inv,rowD_inj,none,zeroR⟩
theorem MapAt.look1 {k e : TypeId} {α β : Type} {E : KeyEncW k α} {V : ElEnc e β} {w : World} {b n : Nat} {f : α -> Option β} (h : MapAt E V w b n f) {t : TypeId} (ht : Tryz.prog.underlying t = some (.map k e)) {x : α} (hx : E.ok x) :
  (Instr.lookup t (.map (some b)) (E.enc x) false).run Tryz.prog w = .ok (V.enc ((f x).getD V.zero)) w:=by
 obtain ⟨D,h,r⟩:=h;obtain ⟨v,ps,hrun,hv⟩:=h.lookup E.law ht (V.hz w) (V.read V.zero) (E.key x hx);rw [(r x hx).2] at hv;obtain ⟨y,rfl,hy⟩:=V.inv _ _ hv;simp only [Prod.mk.injEq] at hy;rw [hrun,V.inj _ _ hy.1]
def RowI (W : World) (b : Nat) (g : Nat -> Int) : Prop:=∃ cs : Array Value,W.heap[b]? = some (.cells cs 3 (0,0)) /\ cs.size = 16384 /\ ∀ c,c < 16384 -> cs[c]? = some (.int .i64 (g c))
section
variable {W W' : World} {b c : Nat} {g : Nat -> Int}
theorem RowI.lt (h : RowI W b g) : b < W.heap.size:=(Array.getElem?_eq_some_iff.1 h.choose_spec.1).1
theorem RowI.cell (h : RowI W b g) (hc : c < 16384) : W.cell? ⟨b,c,none⟩ = some (.int .i64 (g c)):=by
 obtain ⟨cs,h1,h2,h3⟩:=h;rw [cell_of_row W b c _ _ _ h1,h3 c hc]
theorem RowI.fz (h : RowI W b g) (j : Nat) : W.frozen? ⟨b,j,none⟩ = false:=by
 obtain ⟨cs,h1,h2,h3⟩:=h;simp [World.frozen?,h1]
theorem RowI.same (h : RowI W b g) (e : W'.heap[b]? = W.heap[b]?) : RowI W' b g:=by
 obtain ⟨cs,h1,h2⟩:=h;exact ⟨cs,e.trans h1,h2⟩
theorem RowI.below (h : RowI W b g) (hb : Below W.heap.size W W') : RowI W' b g:=h.same (hb.block _ h.lt)
theorem RowI.set (h : RowI W b g) (hc : c < 16384) (x : Int) : RowI (W.setCell ⟨b,c,none⟩ (.int .i64 x)) b (fun c'=>if c' = c then x else g c'):=by
 obtain ⟨cs,h1,h2,h3⟩:=h;refine ⟨cs.setIfInBounds c (.int .i64 x),?_,by simpa using h2,fun c' hc'=>?_⟩
 ·have:=Bk.setS (j:=c) (show Bk W b cs 3 from h1) (.int .i64 x);exact this
 ·rw [Array.getElem?_setIfInBounds];dsimp only;by_cases e : c = c'
  ·subst e;rw [if_pos rfl,if_pos (by omega),if_pos rfl]
  ·rw [if_neg e,if_neg (fun h : c' = c=>e h.symm)];exact h3 c' hc'
theorem RowI.ne {k : Nat} {v : Value} {t : TypeId} (h : RowI W b g) (hb : Bk W k #[v] t) : b ≠ k:=fun e=>by
 subst e;obtain ⟨cs,h1,h2,_⟩:=h;have:=h1.symm.trans hb;simp only [Option.some.injEq,Obj.cells.injEq] at this;rw [this.1] at h2;simp at h2
theorem RowI.ne2 {k : Nat} {u v : Value} {t : TypeId} (h : RowI W b g) (hb : Bk W k #[u,v] t) : b ≠ k:=fun e=>by
 subst e;obtain ⟨cs,h1,h2,_⟩:=h;have:=h1.symm.trans hb;simp only [Option.some.injEq,Obj.cells.injEq] at this;rw [this.1] at h2;simp at h2
theorem RowI.ne4 {k : Nat} {u v x y : Value} {t : TypeId} (h : RowI W b g) (hb : Bk W k #[u,v,x,y] t) : b ≠ k:=fun e=>by
 subst e;obtain ⟨cs,h1,h2,_⟩:=h;have:=h1.symm.trans hb;simp only [Option.some.injEq,Obj.cells.injEq] at this;rw [this.1] at h2;simp at h2
theorem RowI.map {n : Nat} {k e : TypeId} {α β : Type} {E : KeyEncW k α} {V : ElEnc e β} {f : α -> Option β} {M : Nat} (h : RowI W b g) (hm : MapAt E V W M n f) : b ≠ M:=fun e=>by
 subst e;obtain ⟨cs,h1,_⟩:=h;obtain ⟨es,cl,h2⟩:=hm.isMap;rw [h1] at h2;cases h2
end
structure Sx (B0 : Nat) (W0 : World) (nb sb S M kb mb : Nat) (vd vl : Value) (ds : List Dv) (ls : List Lk) (bl : (Int × Int) -> Option Nat) (T : Tab) (k : Int) (P : (Int × Int) -> Nat -> Prop) (W : World) : Prop where
 bel : Below B0 W0 W
 d : Devs B0 W vd ds
 l : Links B0 W vl ls
 n : Bk W nb #[vd,vl] 25
 s : Bk W sb #[.pointer (some ⟨S,0,none⟩)] 39
 S : Bk W S #[.int .i64 0,.map (some M)] 44
 map : MapAt plcE rowE W M 40 (fun t=>(bl t).map some)
 row : ∀ t b,bl t = some b -> RowI W b (tabP T k P t) /\ B0 <= b /\ prtOk t
 inj : ∀ t t' b,bl t = some b -> bl t' = some b -> t = t'
 k : Bk W kb #[.int .i64 k] 3
 m : Bk W mb #[.bool (moreP bl T P)] 4
 lo : B0 <= mb
 dom : ∀ t,isPl ds t.1 t.2 = true -> ∃ b,bl t = some b
end Go.Proofs.YtppbfikimalojaaGreat
namespace Go.Proofs.YtppbfikimalojaaGreat
open Go.RowKit
theorem inN (n lo hi : Int) (w : World) : Calls Tryz.prog 8 #[.int .i64 n,.int .i64 lo,.int .i64 hi] w fun e w'=>e = .returned (.bool (decide (lo <= n) && decide (n <= hi))) /\ w' = w:=by
 by_cases h : lo <= n
 ·go_enter Tryz.func8,Tryz.ntmps8;go_wp2_with fail;go_ret;exact ⟨by simp [h],rfl⟩
 ·have h' : decide (lo <= n) = false:=by simp;omega
  go_enter Tryz.func8,Tryz.ntmps8;go_wp2_with fail;go_ret;exact ⟨by simp,rfl⟩
theorem rports_any (k : Int) (w : World) : Calls Tryz.prog 19 #[.int .i64 k] w fun e w'=>e = .returned (.int .i64 (portsV k)) /\ Below w.heap.size w w':=by
 have IN : Hid (∀ w,Calls Tryz.prog 8 #[.int .i64 k,.int .i64 1,.int .i64 5] w fun e w'=>e = .returned (.bool (decide (1 <= k) && decide (k <= 5))) /\ w' = w):=fun w=>inN k 1 5 w;by_cases h : 1 <= k /\ k <= 5
 ·rw [show (decide (1 <= k) && decide (k <= 5)) = true by simp [h]] at IN;have hk : k = 1 ∨ k = 2 ∨ k = 3 ∨ k = 4 ∨ k = 5:=by omega
  clear h;rcases hk with rfl | rfl | rfl | rfl | rfl
  all_goals
   go_enter Tryz.func19,Tryz.ntmps19;go_wp2_with fail;refine (IN.out _).mono ?_;rintro e w1 ⟨rfl,rfl⟩;go_wp2_with fail;go_ret;exact ⟨rfl,Below.alN (Below.refl _ _) _⟩
 ·rw [show (decide (1 <= k) && decide (k <= 5)) = false by
   rw [Bool.eq_false_iff];simp only [ne_eq,Bool.and_eq_true,decide_eq_true_eq];exact h] at IN
  have e : portsV k = 0:=by
   unfold portsV;rw [if_neg (by omega),if_neg (by omega),if_neg (by omega)]
  rw [e];clear h e;go_enter Tryz.func19,Tryz.ntmps19;go_wp2_with fail;refine (IN.out _).mono ?_;rintro e w1 ⟨rfl,rfl⟩;go_wp2_with fail;go_ret;exact ⟨rfl,Below.refl _ _⟩
theorem rpeer_any (vd : Value) (A : Option Addr) (n cap : Nat) (ls : List Lk) (d p : Int) (w : World) (hL : Hid (Links w.heap.size w (.slice A n cap) ls)) :
  Calls Tryz.prog 35 #[.agg #[vd,.slice A n cap],.agg #[.int .i64 d,.int .i64 p]] w fun e w'=>e = .returned (.tuple #[placeV (peerF ls d p),.bool (peerF ls d p).isSome]) /\ Below w.heap.size w w':=by
 obtain ⟨rfl,hc,hm⟩:=hL.out.len;unfold maxLen at hm;have D1:=Below.alN (Below.refl w.heap.size w) (.cells #[vd,.slice A ls.length cap] 25);have D2:=Below.alN D1 (.cells #[.int .i64 d,.int .i64 p] 27);have D3:=Below.alN D2 (.cells #[.int .i64 0,.int .i64 0] 27);have B1:=((box2_new w vd (.slice A ls.length cap) 25).alloc (.cells #[.int .i64 d,.int .i64 p] 27)).alloc (.cells #[.int .i64 0,.int .i64 0] 27);have B2:=(box2_new (w.alloc (.cells #[vd,.slice A ls.length cap] 25)) (.int .i64 d) (.int .i64 p) 27).alloc (.cells #[.int .i64 0,.int .i64 0] 27);have B3:=box2_new ((w.alloc (.cells #[vd,.slice A ls.length cap] 25)).alloc (.cells #[.int .i64 d,.int .i64 p] 27)) (.int .i64 0) (.int .i64 0) 27;simp only [World.size_alloc] at B2 B3;go_enter Tryz.func35,Tryz.ntmps35;go_wp2_with fail;go_loopw [6] (fun i wr=>∃ k : Nat,i = .int .i64 (k : Int) /\ k <= ls.length /\ Below w.heap.size w wr /\ Box2 wr w.heap.size vd (.slice A ls.length cap) /\ Box2 wr (w.heap.size + 1) (.int .i64 d) (.int .i64 p) /\ Box2 wr (w.heap.size + 1 + 1) (.int .i64 0) (.int .i64 0) /\ Hid (peerF ls d p = peerF (ls.drop k) d p)) (fun i _=>ls.length - (intOf i).toNat)
 case atStart=>exact ⟨0,rfl,by omega,D3,B1,B2,B3,rfl⟩
 case round =>
  clear B1 B2 B3 D1 D2 D3;obtain ⟨k,rfl,hk,D1,B1,B2,B3,hl⟩:=hrel;obtain ⟨n1,e0,e1,_⟩:=id B1;by_cases hlt : k < ls.length
  ·obtain ⟨l,hlk⟩ : ∃ l,ls[k]? = some l:=⟨_,List.getElem?_eq_getElem hlt⟩;obtain ⟨b,o,rfl,hb,c0,c1,c2,c3⟩:=(hL.out.below D1).at hlk;have Hd : Hid (peerF (ls.drop k) d p = (endOf l d p).or (peerF (ls.drop (k + 1)) d p)):=peerF_drop hlk d p;have D2:=Below.alN D1 (.cells #[.int .i64 l.a,.int .i64 l.p,.int .i64 l.b,.int .i64 l.q] 96);have E1:=B1.alloc (.cells #[.int .i64 l.a,.int .i64 l.p,.int .i64 l.b,.int .i64 l.q] 96);have E2:=B2.alloc (.cells #[.int .i64 l.a,.int .i64 l.p,.int .i64 l.b,.int .i64 l.q] 96);have E3:=B3.alloc (.cells #[.int .i64 l.a,.int .i64 l.p,.int .i64 l.b,.int .i64 l.q] 96);have k1 : (0 : Int) <= (k : Int):=by omega
   have k2 : (k : Int) < (ls.length : Int):=by omega
   have lw:=D1.size;unfold endOf at Hd;clear hlk hL;generalize l.a = la at *;generalize l.p = lp at *;generalize l.b = lb at *;generalize l.q = lq at *;obtain ⟨n2,f0,f1,f2,f3⟩:=id E2;obtain ⟨n3,g0,g1,g2,g3⟩:=id E3;obtain ⟨m2,h0,h1,_⟩:=id B2;cases x0 : ((la == d) && (lp == p))
   ·cases x1 : ((lb == d) && (lq == p))
    ·have Hn : Hid (peerF ls d p = peerF (ls.drop (k + 1)) d p):=by show _ = _;rw [hl.out,Hd.out,x0,x1];rfl
     clear hl Hd;cases y0 : (la == d)
     ·cases y1 : (lb == d)
      ·clear x0 x1;go_wp2_with fail;go_roundw
       case rel=>exact ⟨k + 1,by go_num,by omega,D2,E1,E2,E3,Hn⟩
       case measure=>simp [intOf];omega
      ·have y2 : (lq == p) = false:=by rw [y1] at x1;simpa using x1
       clear x0 x1;go_wp2_with fail;go_roundw
       case rel=>exact ⟨k + 1,by go_num,by omega,D2,E1,E2,E3,Hn⟩
       case measure=>simp [intOf];omega
     ·have y3 : (lp == p) = false:=by rw [y0] at x0;simpa using x0
      cases y1 : (lb == d)
      ·clear x0 x1;go_wp2_with fail;go_roundw
       case rel=>exact ⟨k + 1,by go_num,by omega,D2,E1,E2,E3,Hn⟩
       case measure=>simp [intOf];omega
      ·have y2 : (lq == p) = false:=by rw [y1] at x1;simpa using x1
       clear x0 x1;go_wp2_with fail;go_roundw
       case rel=>exact ⟨k + 1,by go_num,by omega,D2,E1,E2,E3,Hn⟩
       case measure=>simp [intOf];omega
    ·have Hn : Hid (peerF ls d p = some (la,lp)):=by show _ = _;rw [hl.out,Hd.out,x0,x1];rfl
     clear hl Hd;obtain ⟨y1,y2⟩ : (lb == d) = true /\ (lq == p) = true:=by simpa using x1
     cases y0 : (la == d)
     ·clear x0 x1;go_wp2_with fail;refine bodyPost_ret (v:=.tuple #[.agg #[.int .i64 la,.int .i64 lp],.bool true]) (by simp [results,Tryz.results35,go_sem,g0,g1]) rfl ⟨by rw [Hn.out];rfl,?_⟩;exact (D2.setCell (by simp;omega) _).setCell (by simp;omega) _
     ·have y3 : (lp == p) = false:=by rw [y0] at x0;simpa using x0
      clear x0 x1;go_wp2_with fail;refine bodyPost_ret (v:=.tuple #[.agg #[.int .i64 la,.int .i64 lp],.bool true]) (by simp [results,Tryz.results35,go_sem,g0,g1]) rfl ⟨by rw [Hn.out];rfl,?_⟩;exact (D2.setCell (by simp;omega) _).setCell (by simp;omega) _
   ·have Hn : Hid (peerF ls d p = some (lb,lq)):=by show _ = _;rw [hl.out,Hd.out,x0];rfl
    clear hl Hd;obtain ⟨y1,y2⟩ : (la == d) = true /\ (lp == p) = true:=by simpa using x0
    clear x0;go_wp2_with fail;refine bodyPost_ret (v:=.tuple #[.agg #[.int .i64 lb,.int .i64 lq],.bool true]) (by simp [results,Tryz.results35,go_sem,g0,g1]) rfl ⟨by rw [Hn.out];rfl,?_⟩;exact (D2.setCell (by simp;omega) _).setCell (by simp;omega) _
  ·have Hn : Hid (peerF ls d p = none):=by show _ = _;rw [hl.out,List.drop_eq_nil_of_le (by omega)];rfl
   obtain ⟨n3,g0,g1,g2,g3⟩:=id B3;go_wp2_with fail;refine bodyPost_ret (v:=.tuple #[.agg #[.int .i64 0,.int .i64 0],.bool false]) (by simp [results,Tryz.results35,go_sem,g0,g1]) rfl ⟨by rw [Hn.out];rfl,?_⟩;exact (D1.setCell (by simp;omega) _).setCell (by simp;omega) _
theorem rin_any (n : Int) (w : World) : Calls Tryz.prog 8 #[.int .i64 n,.int .i64 0,.int .i64 15] w fun e w'=>e = .returned (.bool (decide (0 <= n) && decide (n <= 15))) /\ w' = w:=by
 by_cases h0 : 0 <= n
 ·have t : decide (0 <= n) = true:=by simp [h0]
  go_enter Tryz.func8,Tryz.ntmps8;go_wp2_with fail;go_ret;exact ⟨by simp [h0],rfl⟩
 ·have t : decide (0 <= n) = false:=by simp;omega
  go_enter Tryz.func8,Tryz.ntmps8;go_wp2_with fail;go_ret;exact ⟨by simp,rfl⟩
theorem rhas_nat (b : Nat) (n : Nat) (w : World) (hn : n < 16) :
  Calls Tryz.prog 77 #[.int .i64 (b : Int),.int .i64 (n : Int)] w fun e w'=>e = .returned (.bool (b.testBit n)) /\ w' = w:=by
 have t : (decide ((0 : Int) <= (n : Int)) && decide ((n : Int) <= 15)) = true:=by simp;omega
 have he : Hid ((((b : Int) / 2 ^ n).tmod 2 == 1) = b.testBit n):=by
  show _ = _;rw [Nat.testBit,Nat.one_and_eq_mod_two,show ((b : Int) / 2 ^ n) = ((b >>> n : Nat) : Int) by rw [Nat.shiftRight_eq_div_pow];simp];have e : (((b >>> n : Nat) : Int).tmod 2) = (((b >>> n) % 2 : Nat) : Int):=rfl;rw [e];have : (b >>> n) % 2 = 0 ∨ (b >>> n) % 2 = 1:=by omega
  rcases this with h | h <;> rw [h] <;> rfl
 go_enter Tryz.func77,Tryz.ntmps77;go_wp2_with (go_at_call 8;refine (rin_any _ _).mono ?_;rintro e w' ⟨rfl,rfl⟩;rw [t]);go_ret;refine ⟨?_,rfl⟩;rw [<- he.out];simp
theorem rhas_int (b : Nat) (n : Int) (w : World) (h1 : b < 65536) :
  Calls Tryz.prog 77 #[.int .i64 (b : Int),.int .i64 n] w fun e w'=>e = .returned (.bool (hasB b n)) /\ w' = w:=by
 by_cases hn : 0 <= n /\ n <= 15
 ·obtain ⟨k,rfl⟩ : ∃ k : Nat,n = k:=⟨n.toNat,by omega⟩;have e : hasB b (k : Int) = b.testBit k:=by simp [hasB]
  rw [e];exact rhas_nat b k w (by omega)
 ·have t : (decide ((0 : Int) <= n) && decide (n <= 15)) = false:=by
   by_cases h : 0 <= n
   ·simp;omega
   ·simp;omega
  have e : hasB b n = false:=by
   unfold hasB;by_cases h : 0 <= n
   ·rw [Nat.testBit_lt_two_pow (Nat.lt_of_lt_of_le h1 (Nat.pow_le_pow_right (n:=2) (by omega) (show 16 <= n.toNat by omega)))];simp
   ·simp;omega
  rw [e];clear hn e;go_enter Tryz.func77,Tryz.ntmps77;go_wp2_with (go_at_call 8;refine (rin_any _ _).mono ?_;rintro e w' ⟨rfl,rfl⟩;rw [t]);go_ret;exact ⟨rfl,rfl⟩
theorem rpacket_any (c : Nat) (w : World) (hc : c < 16384) :
  Calls Tryz.prog 21 #[.int .i64 (c : Int)] w fun e w'=>e = .returned (pk ((c / 1024 : Nat) : Int) ((c / 64 % 16 : Nat) : Int) ((c / 8 % 8 : Nat) : Int) ((c % 8 : Nat) : Int)) /\ Below w.heap.size w w':=by
 go_enter Tryz.func21,Tryz.ntmps21;go_wp2_with fail;exact bodyPost_ret (v:=pk ((c / 1024 : Nat) : Int) ((c / 64 % 16 : Nat) : Int) ((c / 8 % 8 : Nat) : Int) ((c % 8 : Nat) : Int)) (by simp [results,Tryz.results21,go_sem]) rfl ⟨rfl,by go_grown⟩
theorem rHas_case (a b c d : Nat) (p q r s : Int) (w : World) (x0 x1 x2 x3 : Bool) (ha : a < 65536) (hb : b < 65536) (hc : c < 256) (hd : d < 256)
  (k0 : Hid (∀ w,Calls Tryz.prog 77 #[.int .i64 (a : Int),.int .i64 p] w fun e w'=>e = .returned (.bool x0) /\ w' = w))
  (k1 : Hid (∀ w,Calls Tryz.prog 77 #[.int .i64 (b : Int),.int .i64 q] w fun e w'=>e = .returned (.bool x1) /\ w' = w))
  (k2 : Hid (∀ w,Calls Tryz.prog 77 #[.int .i64 (c : Int),.int .i64 r] w fun e w'=>e = .returned (.bool x2) /\ w' = w))
  (k3 : Hid (∀ w,Calls Tryz.prog 77 #[.int .i64 (d : Int),.int .i64 s] w fun e w'=>e = .returned (.bool x3) /\ w' = w)) :
  Calls Tryz.prog 48 #[mt a b c d,pk p q r s] w fun e w'=>e = .returned (.bool (x0 && x1 && x2 && x3)) /\ Below w.heap.size w w':=by
 cases x0
 ·go_enter Tryz.func48,Tryz.ntmps48;go_wp2_with fail;refine (k0.out _).mono ?_;rintro e w1 ⟨rfl,rfl⟩;go_wp2_with fail;go_ret;exact ⟨by simp,by go_grown⟩
 cases x1
 ·go_enter Tryz.func48,Tryz.ntmps48;go_wp2_with fail;refine (k0.out _).mono ?_;rintro e w1 ⟨rfl,rfl⟩;go_wp2_with fail;refine (k1.out _).mono ?_;rintro e w1 ⟨rfl,rfl⟩;go_wp2_with fail;go_ret;exact ⟨by simp,by go_grown⟩
 cases x2
 ·go_enter Tryz.func48,Tryz.ntmps48;go_wp2_with fail;refine (k0.out _).mono ?_;rintro e w1 ⟨rfl,rfl⟩;go_wp2_with fail;refine (k1.out _).mono ?_;rintro e w1 ⟨rfl,rfl⟩;go_wp2_with fail;refine (k2.out _).mono ?_;rintro e w1 ⟨rfl,rfl⟩;go_wp2_with fail;go_ret;exact ⟨by simp,by go_grown⟩
 ·go_enter Tryz.func48,Tryz.ntmps48;go_wp2_with fail;refine (k0.out _).mono ?_;rintro e w1 ⟨rfl,rfl⟩;go_wp2_with fail;refine (k1.out _).mono ?_;rintro e w1 ⟨rfl,rfl⟩;go_wp2_with fail;refine (k2.out _).mono ?_;rintro e w1 ⟨rfl,rfl⟩;go_wp2_with fail;refine (k3.out _).mono ?_;rintro e w1 ⟨rfl,rfl⟩;go_wp2_with fail;go_ret;exact ⟨by simp,by go_grown⟩
theorem rHas_in (a b c d : Nat) (p q r s : Int) (w : World) (ha : a < 65536) (hb : b < 65536) (hc : c < 256) (hd : d < 256) :
  Calls Tryz.prog 48 #[mt a b c d,pk p q r s] w fun e w'=>e = .returned (.bool (inB a b c d p q r s)) /\ Below w.heap.size w w' :=
 rHas_case a b c d p q r s w _ _ _ _ ha hb hc hd (fun w=>rhas_int a p w ha) (fun w=>rhas_int b q w hb) (fun w=>rhas_int c r w (by omega)) (fun w=>rhas_int d s w (by omega))
theorem rlets_row (b o cap : Nat) (xs : List Rl) (p q s t : Int) (w : World) (hb : b < w.heap.size) (hn : xs.length <= cap) (hcap : cap <= maxLen) (hr : RAt w b o xs) :
  Calls Tryz.prog 75 #[.slice (some ⟨b,o,none⟩) xs.length cap,pk p q s t] w fun e w'=>e = .returned (.bool (letsB xs p q s t)) /\ Below w.heap.size w w':=by
 unfold maxLen at hcap;have D0:=Below.alloc' (Below.refl w.heap.size w) (.cells #[.int .i64 p,.int .i64 q,.int .i64 s,.int .i64 t] 29);have F0:=four_new w (.int .i64 p) (.int .i64 q) (.int .i64 s) (.int .i64 t) 29;go_enter Tryz.func75,Tryz.ntmps75;go_wp2_with fail;go_loopw [5] (fun i wr=>∃ k : Nat,i = .int .i64 (k : Int) /\ k <= xs.length /\ Below w.heap.size w wr /\ Four wr w.heap.size (.int .i64 p) (.int .i64 q) (.int .i64 s) (.int .i64 t) /\ letsB xs p q s t = letsB (xs.drop k) p q s t) (fun i _=>xs.length - (intOf i).toNat)
 case atStart=>exact ⟨0,rfl,by omega,D0,F0,rfl⟩
 case round =>
  obtain ⟨k,rfl,hk,D1,F1,hl⟩:=hrel;have Hl : Hid (letsB xs p q s t = letsB (xs.drop k) p q s t):=hl;clear hl;by_cases hlt : k < xs.length
  ·obtain ⟨r,hxk⟩ : ∃ r,xs[k]? = some r:=⟨_,List.getElem?_eq_getElem hlt⟩;have RA:=hr.below D1 hb;obtain ⟨c0,c1,c2,c3,c4⟩:=RA.at hxk;have Hd : Hid (letsB (xs.drop k) p q s t = if inR r p q s t then r.ok else letsB (xs.drop (k + 1)) p q s t):=letsB_drop hxk p q s t;have IN : Hid (∀ w',Below wr.heap.size wr w' -> Calls Tryz.prog 48 #[mt r.a r.b r.c r.d,pk p q s t] w' fun e w''=>e = .returned (.bool (inR r p q s t)) /\ Hid (Below w.heap.size w w'') /\ Hid (Four w'' w.heap.size (.int .i64 p) (.int .i64 q) (.int .i64 s) (.int .i64 t)) /\ w''.cell? ⟨b,o + k * 5,none⟩ = some (.bool r.ok) /\ w''.cell? ⟨b,o + k * 5 + 1,none⟩ = some (.int .u16 (r.a : Int)) /\ w''.cell? ⟨b,o + k * 5 + 2,none⟩ = some (.int .u16 (r.b : Int)) /\ w''.cell? ⟨b,o + k * 5 + 3,none⟩ = some (.int .u8 (r.c : Int)) /\ w''.cell? ⟨b,o + k * 5 + 4,none⟩ = some (.int .u8 (r.d : Int)) /\ w''.cell? ⟨w.heap.size,0,none⟩ = some (.int .i64 p) /\ w''.cell? ⟨w.heap.size,1,none⟩ = some (.int .i64 q) /\ w''.cell? ⟨w.heap.size,2,none⟩ = some (.int .i64 s) /\ w''.cell? ⟨w.heap.size,3,none⟩ = some (.int .i64 t)):=fun w' hw' =>
    (rHas_in r.a r.b r.c r.d p q s t w' r.ha r.hb r.hc r.hd).mono fun e w'' ⟨h1,h2⟩=>by
      have hB:=hw'.trans (h2.mono hw'.size);have F2:=keepFour hB F1;have hb' : b < wr.heap.size:=Nat.lt_of_lt_of_le hb D1.size;obtain ⟨y0,y1,y2,y3,y4⟩:=(RA.below hB hb').at hxk;exact ⟨h1,chain hB D1,F2,y0,y1,y2,y3,y4,F2.2.1,F2.2.2.1,F2.2.2.2.1,F2.2.2.2.2⟩
   obtain ⟨l0,g0,g1,g2,g3⟩:=id F1;have lw:=D1.size;have R0 : Below wr.heap.size wr wr.drew:=(Below.refl _ _).drew;have k1 : (0 : Int) <= (k : Int):=by omega
   have k2 : (k : Int) < (xs.length : Int):=by omega
   clear hr hxk RA;generalize inR r p q s t = v at *;generalize r.ok = ok at *;generalize r.a = ra at *;generalize r.b = rb at *;generalize r.c = rc at *;generalize r.d = rd at *;go_wp2_with fail;go_region_held3 (fun w'=>w'.cell? ⟨b,o + k * 5,none⟩ = some (.bool ok) /\ w'.cell? ⟨b,o + k * 5 + 1,none⟩ = some (.int .u16 (ra : Int)) /\ w'.cell? ⟨b,o + k * 5 + 2,none⟩ = some (.int .u16 (rb : Int)) /\ w'.cell? ⟨b,o + k * 5 + 3,none⟩ = some (.int .u8 (rc : Int)) /\ w'.cell? ⟨b,o + k * 5 + 4,none⟩ = some (.int .u8 (rd : Int)) /\ w'.cell? ⟨w.heap.size,0,none⟩ = some (.int .i64 p) /\ w'.cell? ⟨w.heap.size,1,none⟩ = some (.int .i64 q) /\ w'.cell? ⟨w.heap.size,2,none⟩ = some (.int .i64 s) /\ w'.cell? ⟨w.heap.size,3,none⟩ = some (.int .i64 t)) (exact ⟨by assumption,by assumption,by assumption,by assumption,by assumption,by assumption,by assumption,by assumption,by assumption⟩)
    (first | (go_at_call 48;refine (IN.out _ ‹_›).mono ?_;rintro e wn ⟨rfl,D3,F3,z0,z1,z2,z3,z4,z5,z6,z7,z8⟩))
   cases v
   ·go_wp2_with fail;go_roundw
    case rel=>exact ⟨k + 1,by go_num,by omega,D3.out,F3.out,by rw [Hl.out,Hd.out];simp⟩
    case measure=>simp [intOf];omega
   ·go_wp2_with fail;go_ret;exact ⟨by rw [Hl.out,Hd.out];simp,D3.out⟩
  ·go_wp2_with fail;go_ret;exact ⟨by rw [Hl.out,List.drop_eq_nil_of_le (by omega)];rfl,D1⟩
theorem rlets_none (A : Option Addr) (cap : Nat) (p q s t : Int) (w : World) :
  Calls Tryz.prog 75 #[.slice A 0 cap,pk p q s t] w fun e w'=>e = .returned (.bool false) /\ Below w.heap.size w w':=by
 have D0:=Below.alloc' (Below.refl w.heap.size w) (.cells #[.int .i64 p,.int .i64 q,.int .i64 s,.int .i64 t] 29);go_enter Tryz.func75,Tryz.ntmps75;go_wp2_with fail;go_loopw [5] (fun i wr=>i = .int .i64 0 /\ Below w.heap.size w wr) (fun i _=>0)
 case atStart=>exact ⟨rfl,D0⟩
 case round =>
  obtain ⟨rfl,D1⟩:=hrel;go_wp2_with fail;go_ret;exact ⟨rfl,D1⟩
theorem rlets_any {v : Value} {xs : List Rl} (p q s t : Int) (w : World) (h : Rules w.heap.size w v xs) :
  Calls Tryz.prog 75 #[v,pk p q s t] w fun e w'=>e = .returned (.bool (letsB xs p q s t)) /\ Below w.heap.size w w':=by
 obtain ⟨A,cap,rfl,_,h1,h2,h3⟩:=h;by_cases hx : xs = []
 ·subst hx;exact rlets_none A cap p q s t w
 ·obtain ⟨b,o,rfl,hb,hr⟩:=h3 hx;exact rlets_row b o cap xs p q s t w hb h1 h2 hr
end Go.Proofs.YtppbfikimalojaaGreat
namespace Go.Proofs.YtppbfikimalojaaGreat
open Go.RowKit Go.Maps
section
variable {B0 : Nat} {W0 W W' : World} {nb sb S M kb mb : Nat} {vd vl : Value} {ds : List Dv} {ls : List Lk} {bl : (Int × Int) -> Option Nat} {T : Tab} {k : Int} {P : PutS} {t : Int × Int} {b c : Nat}
theorem below_set2 {b1 b2 c1 c2 : Nat} {u v : Value} (h1 : B0 <= b1) (h2 : B0 <= b2) : Below B0 W ((W.setCell ⟨b1,c1,none⟩ u).setCell ⟨b2,c2,none⟩ v) :=
 ((Below.refl B0 W).setCell (p:=⟨b1,c1,none⟩) h1 u).setCell (p:=⟨b2,c2,none⟩) h2 v
theorem Sx.below (h : Sx B0 W0 nb sb S M kb mb vd vl ds ls bl T k P W) (hb : Below W.heap.size W W') (hB : B0 <= W.heap.size) : Sx B0 W0 nb sb S M kb mb vd vl ds ls bl T k P W' :=
 ⟨h.bel.trans (hb.mono hB),h.d.below (hb.mono hB),h.l.below (hb.mono hB),Bk.keep hb h.n,Bk.keep hb h.s,Bk.keep hb h.S,h.map.same (hb.block _ h.map.lt),fun t b e=>⟨(h.row t b e).1.below hb,(h.row t b e).2⟩,h.inj,Bk.keep hb h.k,Bk.keep hb h.m,h.lo,h.dom⟩
theorem Sx.size (h : Sx B0 W0 nb sb S M kb mb vd vl ds ls bl T k P W) : B0 <= W.heap.size:=Nat.le_trans h.lo (Nat.le_of_lt h.m.lt)
theorem Sx.grow (h : Sx B0 W0 nb sb S M kb mb vd vl ds ls bl T k P W) (hb : Below W.heap.size W W') : Sx B0 W0 nb sb S M kb mb vd vl ds ls bl T k P W':=h.below hb h.size
theorem uMapP : Tryz.prog.underlying 42 = some (.map 27 50):=by kernel_rfl
theorem Sx.look (h : Sx B0 W0 nb sb S M kb mb vd vl ds ls bl T k P W) (hb : bl t = some b) : (Instr.lookup 42 (.map (some M)) (.agg #[.int .i64 t.1,.int .i64 t.2]) false).run Tryz.prog W = .ok (.slice (some ⟨b,0,none⟩) 16384 16384) W:=by
 have:=h.map.look1 uMapP (x:=t) (h.row t b hb).2.2;rw [hb] at this;exact this
theorem tabP_add (h : tabP T k P t c < 0) (hk : 0 <= k) (c' : Nat) : tabP T k (addP P (some t) c) t c' = if c' = c then k + 1 else tabP T k P t c':=by
 unfold tabP addP at *;by_cases e : c' = c
 ·subst e;rw [if_pos rfl]
  split at h
  ·omega
  ·rw [if_pos ⟨h,Or.inr ⟨rfl,rfl⟩⟩]
 ·rw [if_neg e];by_cases hp : T t c' < 0 /\ P t c'
  ·rw [if_pos hp,if_pos ⟨hp.1,Or.inl hp.2⟩]
  ·rw [if_neg hp,if_neg (fun h2=>hp ⟨h2.1,h2.2.resolve_right fun h3=>e h3.2⟩)]
theorem tabP_other {t' : Int × Int} (hne : t' ≠ t) : tabP T k (addP P (some t) c) t' = tabP T k P t':=by
 funext c'
 unfold tabP addP;by_cases hp : T t' c' < 0 /\ P t' c'
 ·rw [if_pos hp,if_pos ⟨hp.1,Or.inl hp.2⟩]
 ·rw [if_neg hp,if_neg (fun h2=>hp ⟨h2.1,h2.2.resolve_right fun h3=>hne (Option.some.inj h3.1).symm⟩)]
theorem tabP_nop (h : ¬ tabP T k P t c < 0) : tabP T k (addP P (some t) c) = tabP T k P:=by
 funext t' c'
 by_cases ht : t' = t
 ·subst ht;by_cases e : c' = c
  ·subst e;unfold tabP addP at *
   split at h
   ·rename_i hp
    rw [if_pos hp,if_pos ⟨hp.1,Or.inl hp.2⟩]
   ·rw [if_neg (fun h2=>h h2.1)]
    rename_i hp
    rw [if_neg hp]
  ·unfold tabP addP;by_cases hp : T t' c' < 0 /\ P t' c'
   ·rw [if_pos hp,if_pos ⟨hp.1,Or.inl hp.2⟩]
   ·rw [if_neg hp,if_neg (fun h2=>hp ⟨h2.1,h2.2.resolve_right fun h3=>e h3.2⟩)]
 ·rw [tabP_other ht]
theorem more_add (hb : bl t = some b) (hc : c < 16384) (h : tabP T k P t c < 0) (hk : 0 <= k) : moreP bl T (addP P (some t) c) = true:=by
 unfold moreP;refine @decide_eq_true _ (Classical.propDecidable _) ⟨t,c,by rw [hb];rfl,hc,?_,Or.inr ⟨rfl,rfl⟩⟩;unfold tabP at h
 split at h
 ·omega
 ·exact h
theorem more_nop (h : ¬ tabP T k P t c < 0) : moreP bl T (addP P (some t) c) = moreP bl T P:=by
 unfold moreP;rw [decide_eq_decide];refine ⟨?_,fun ⟨t',c',h1,h2,h3,h4⟩=>⟨t',c',h1,h2,h3,Or.inl h4⟩⟩;rintro ⟨t',c',h1,h2,h3,h4 | ⟨h4,h5⟩⟩
 ·exact ⟨t',c',h1,h2,h3,h4⟩
 ·cases h4;subst h5;unfold tabP at h
  split at h
  ·rename_i hp
   exact ⟨t,c',h1,h2,hp⟩
  ·exact absurd h3 h
theorem addP_none : addP P none c = P:=by
 funext t' c'
 unfold addP;refine propext ⟨fun h=>h.resolve_right (fun h=>by have:=h.1;cases this),Or.inl⟩
theorem Sx.nop (h : Sx B0 W0 nb sb S M kb mb vd vl ds ls bl T k P W) (ht : ¬ tabP T k P t c < 0) : Sx B0 W0 nb sb S M kb mb vd vl ds ls bl T k (addP P (some t) c) W :=
 ⟨h.bel,h.d,h.l,h.n,h.s,h.S,h.map,fun t' b' e=>by rw [tabP_nop ht];exact h.row t' b' e,h.inj,h.k,by rw [more_nop ht];exact h.m,h.lo,h.dom⟩
theorem Sx.ne (h : Sx B0 W0 nb sb S M kb mb vd vl ds ls bl T k P W) (hb : bl t = some b) : b ≠ nb /\ b ≠ sb /\ b ≠ S /\ b ≠ M /\ b ≠ kb /\ b ≠ mb :=
 have r:=(h.row t b hb).1
 ⟨r.ne2 h.n,r.ne h.s,r.ne2 h.S,r.map h.map,r.ne h.k,r.ne h.m⟩
theorem Sx.put (h : Sx B0 W0 nb sb S M kb mb vd vl ds ls bl T k P W) (hb : bl t = some b) (hc : c < 16384) (ht : tabP T k P t c < 0) (hk : 0 <= k) :
  Sx B0 W0 nb sb S M kb mb vd vl ds ls bl T k (addP P (some t) c) ((W.setCell ⟨b,c,none⟩ (.int .i64 (k + 1))).setCell ⟨mb,0,none⟩ (.bool true)):=by
 obtain ⟨n1,n2,n3,n4,n5,n6⟩:=h.ne hb;have hB:=(h.row t b hb).2.1;have h1 : ∀ j,j ≠ b -> j ≠ mb -> ((W.setCell ⟨b,c,none⟩ (.int .i64 (k + 1))).setCell ⟨mb,0,none⟩ (.bool true)).heap[j]? = W.heap[j]?:=fun j e1 e2 =>
  (Below.heap_setCell _ ⟨mb,0,none⟩ _ j e2).trans (Below.heap_setCell W ⟨b,c,none⟩ _ j e1)
 have apart : ∀ {c1 c2 : Array Value} {t1 t2 : TypeId} {k1 k2 : Nat},Bk W k1 c1 t1 -> Bk W k2 c2 t2 -> (c1 ≠ c2 ∨ t1 ≠ t2) -> k1 ≠ k2:=fun {c1 c2 t1 t2 k1 k2} a1 a2 hne e=>by
  subst e;have:=a1.symm.trans a2;simp only [Option.some.injEq,Obj.cells.injEq] at this;rcases hne with hne | hne
  ·exact hne this.1
  ·exact hne this.2.1
 have e1 : nb ≠ mb:=apart h.n h.m (Or.inl (fun e=>by have:=congrArg Array.size e;simp at this));have e2 : sb ≠ mb:=apart h.s h.m (Or.inl (fun e=>by simp at e));have e3 : S ≠ mb:=apart h.S h.m (Or.inl (fun e=>by have:=congrArg Array.size e;simp at this));have e5 : kb ≠ mb:=apart h.k h.m (Or.inl (fun e=>by simp at e));have e4 : M ≠ mb:=fun e=>by
  obtain ⟨es,cl,h2⟩:=h.map.isMap;rw [e] at h2;have:=h2.symm.trans h.m;cases this
 have hbel : Below B0 W ((W.setCell ⟨b,c,none⟩ (.int .i64 (k + 1))).setCell ⟨mb,0,none⟩ (.bool true)):=below_set2 hB h.lo;refine ⟨h.bel.trans hbel,h.d.below hbel,h.l.below hbel,(h1 nb (Ne.symm n1) e1).trans h.n,(h1 sb (Ne.symm n2) e2).trans h.s,(h1 S (Ne.symm n3) e3).trans h.S,h.map.same (h1 M (Ne.symm n4) e4),fun t' b' e=>?_,h.inj,(h1 kb (Ne.symm n5) e5).trans h.k,?_,h.lo,h.dom⟩
 ·obtain ⟨r1,r2,r3⟩:=h.row t' b' e;have nm:=r1.ne h.m;refine ⟨?_,r2,r3⟩;by_cases htt : t' = t
  ·subst htt;rw [hb] at e;cases e;have:=(r1.set hc (k + 1)).same (W':=(W.setCell ⟨b,c,none⟩ (.int .i64 (k + 1))).setCell ⟨mb,0,none⟩ (.bool true)) (Below.heap_setCell _ ⟨mb,0,none⟩ _ b nm);have hf : (fun c'=>if c' = c then k + 1 else tabP T k P t' c') = tabP T k (addP P (some t') c) t':=funext fun c'=>(tabP_add ht hk c').symm;rw [hf] at this;exact this
  ·rw [tabP_other htt];have hbb : b' ≠ b:=fun e'=>htt (h.inj t' t b' e (by rw [e'];exact hb));exact r1.same (h1 b' hbb nm)
 ·rw [more_add hb hc ht hk];have:=Bk.setS (j:=0) (show Bk (W.setCell ⟨b,c,none⟩ (.int .i64 (k + 1))) mb #[.bool (moreP bl T P)] 4 from (Below.heap_setCell W ⟨b,c,none⟩ _ mb (Ne.symm n6)).trans h.m) (.bool true);simpa using this
end
section
variable {B0 : Nat} {W0 W W' : World} {nb sb S M kb mb : Nat} {vd vl : Value} {ds : List Dv} {ls : List Lk} {bl : (Int × Int) -> Option Nat} {T : Tab} {k : Int} {P : PutS} {t : Int × Int} {b c : Nat}
theorem was_at (i q k' : Int) (c b S M : Nat) (r : Int) (W : World) (hc : c < 16384) (hS : W.cell? ⟨S,1,none⟩ = some (.map (some M))) (hl : (Instr.lookup 42 (.map (some M)) (.agg #[.int .i64 i,.int .i64 q]) false).run Tryz.prog W = .ok (.slice (some ⟨b,0,none⟩) 16384 16384) W) (hr : W.cell? ⟨b,c,none⟩ = some (.int .i64 r)) :
  Calls Tryz.prog 73 #[.pointer (some ⟨S,0,none⟩),.int .i64 i,.int .i64 q,.int .i64 (c : Int),.int .i64 k'] W fun e w'=>e = .returned (.bool (decide (0 <= r) && decide (r <= k'))) /\ w' = W:=by
 have t1 : decide ((c : Int) < 0) = false:=by simp
 have t2 : decide ((16384 : Int) <= (c : Int)) = false:=by simp;omega
 cases hb : decide (0 <= r)
 ·go_enter Tryz.func73,Tryz.ntmps73;go_wp2_with fail;go_ret;exact ⟨by simp,rfl⟩
 ·go_enter Tryz.func73,Tryz.ntmps73;go_wp2_with fail;go_ret;exact ⟨by simp,rfl⟩
theorem was_any (h : Sx B0 W0 nb sb S M kb mb vd vl ds ls bl T k P W) {i q : Int} (hb : bl (i,q) = some b) (hc : c < 16384) :
  Calls Tryz.prog 73 #[.pointer (some ⟨S,0,none⟩),.int .i64 i,.int .i64 q,.int .i64 (c : Int),.int .i64 k] W fun e w'=>e = .returned (.bool (wasB T k (i,q) c)) /\ w' = W:=by
 refine (was_at i q k c b S M (tabP T k P (i,q) c) W hc (h.S.two.2) (h.look hb) ((h.row _ b hb).1.cell hc)).mono fun e w' ⟨h1,h2⟩=>⟨?_,h2⟩;rw [h1];have : (decide (0 <= tabP T k P (i,q) c) && decide (tabP T k P (i,q) c <= k)) = wasB T k (i,q) c:=by
  unfold wasB tabP;rw [Bool.eq_iff_iff];simp only [Bool.and_eq_true,decide_eq_true_eq]
  split <;> omega
 rw [this]
theorem rcode_any (p : Pk) (w : World) (h : pkOk p = true) : Calls Tryz.prog 37 #[pkV p] w fun e w'=>e = .returned (.int .i64 (codeN p : Int)) /\ Below w.heap.size w w':=by
 obtain ⟨h1,h2,h3,h4⟩:=pk_bounds h;obtain ⟨s,d,sp,dp⟩:=p;dsimp only at *;obtain ⟨a,rfl⟩ : ∃ a : Nat,s = (a : Int):=⟨s.toNat,by omega⟩;obtain ⟨b,rfl⟩ : ∃ a : Nat,d = (a : Int):=⟨d.toNat,by omega⟩;obtain ⟨c,rfl⟩ : ∃ a : Nat,sp = (a : Int):=⟨sp.toNat,by omega⟩;obtain ⟨e,rfl⟩ : ∃ a : Nat,dp = (a : Int):=⟨dp.toNat,by omega⟩;have hc : ((a : Int) * 1024 + (b : Int) * 64 + (c : Int) * 8 + (e : Int)) = (codeN ⟨(a : Int),(b : Int),(c : Int),(e : Int)⟩ : Int):=by unfold codeN;dsimp only;omega
 have w1 : IntKind.i64.wrap ((a : Int) * 1024) = (a : Int) * 1024:=IntWalk.i64_in _ (by omega);have w2 : IntKind.i64.wrap ((b : Int) * 64) = (b : Int) * 64:=IntWalk.i64_in _ (by omega);have w3 : IntKind.i64.wrap ((a : Int) * 1024 + (b : Int) * 64) = (a : Int) * 1024 + (b : Int) * 64:=IntWalk.i64_in _ (by omega);have w4 : IntKind.i64.wrap ((c : Int) * 8) = (c : Int) * 8:=IntWalk.i64_in _ (by omega);have w5 : IntKind.i64.wrap ((a : Int) * 1024 + (b : Int) * 64 + (c : Int) * 8) = (a : Int) * 1024 + (b : Int) * 64 + (c : Int) * 8:=IntWalk.i64_in _ (by omega);have w6 : IntKind.i64.wrap ((a : Int) * 1024 + (b : Int) * 64 + (c : Int) * 8 + (e : Int)) = (a : Int) * 1024 + (b : Int) * 64 + (c : Int) * 8 + (e : Int):=IntWalk.i64_in _ (by omega);rw [<- hc];clear hc h;go_enter Tryz.func37,Tryz.ntmps37;go_wp2_with fail;go_ret;exact ⟨by first | rfl | simp [w1,w2,w3,w4,w5,w6],by go_grown⟩
theorem peer_isPl (hz : netV ds ls = 0) {i q : Int} (h : peerF ls i q = some t) : isPl ds t.1 t.2 = true:=by
 obtain ⟨l,hl,he⟩:=peerF_of h;obtain ⟨h10,_,_,hp⟩:=netV_links hz;rcases endOf_ends he with ⟨_,rfl⟩ | ⟨_,rfl⟩
 ·exact (hp l hl).2
 ·exact (hp l hl).1
theorem put_none (vd : Value) (A : Option Addr) (cap : Nat) (ls : List Lk) (i o : Int) (p : Pk) (nb sb kb mb : Nat) (W : World) (hn : Bk W nb #[vd,.slice A ls.length cap] 25) (hL : Hid (Links W.heap.size W (.slice A ls.length cap) ls)) (hp : peerF ls i o = none) :
  Calls Tryz.prog 36 #[.int .i64 i,.int .i64 o,pkV p,.pointer (some ⟨nb,0,none⟩),.pointer (some ⟨sb,0,none⟩),.pointer (some ⟨kb,0,none⟩),.pointer (some ⟨mb,0,none⟩)] W fun e w'=>e = .returned (.tuple #[]) /\ Below W.heap.size W w':=by
 have D1:=Below.alN (Below.refl W.heap.size W) (.cells #[.int .i64 p.s,.int .i64 p.d,.int .i64 p.sp,.int .i64 p.dp] 29);obtain ⟨n0,n1⟩:=(hn.alloc (.cells #[.int .i64 p.s,.int .i64 p.d,.int .i64 p.sp,.int .i64 p.dp] 29)).two;have PE : Hid (∀ W',Below W.heap.size W W' -> Calls Tryz.prog 35 #[.agg #[vd,.slice A ls.length cap],.agg #[.int .i64 i,.int .i64 o]] W' fun e w'=>e = .returned (.tuple #[.agg #[.int .i64 0,.int .i64 0],.bool false]) /\ Below W'.heap.size W' w'):=fun W' h=>by
  have:=rpeer_any vd A ls.length cap ls i o W' ((hL.out.below h).mono h.size);rw [hp] at this;exact this
 clear hn hL hp;obtain ⟨s,d,sp,dp⟩:=p;dsimp only at *;go_enter Tryz.func36,Tryz.ntmps36;go_wp2_with fail;refine (PE.out _ D1).mono ?_;rintro e w2 ⟨rfl,hb2⟩;have D2:=chain hb2 D1;have D3:=(Below.alN D2 (.cells #[.int .i64 0,.int .i64 0] 27)).drew;clear PE D1 hb2 n0 n1;go_wp2_with fail;go_region;go_wp2_with fail
 go_returns
 exact ⟨rfl,D3⟩
def FrX (bl : (Int × Int) -> Option Nat) (mb : Nat) (W W' : World) : Prop:=W.heap.size <= W'.heap.size /\ ∀ j,j < W.heap.size -> (∀ t,bl t ≠ some j) -> j ≠ mb -> W'.heap[j]? = W.heap[j]?
theorem FrX.of_below (h : Below W.heap.size W W') : FrX bl mb W W':=⟨h.size,fun j hj _ _=>h.block j hj⟩
theorem FrX.set {u v : Value} (h : Below W.heap.size W W') (hb : bl t = some b) : FrX bl mb W ((W'.setCell ⟨b,c,none⟩ u).setCell ⟨mb,0,none⟩ v) :=
 ⟨by simpa [World.setCell] using h.size,fun j hj h1 h2=>((Below.heap_setCell _ ⟨mb,0,none⟩ _ j h2).trans (Below.heap_setCell W' ⟨b,c,none⟩ _ j (fun e=>h1 t (by rw [hb,e])))).trans (h.block j hj)⟩
theorem put_some (A : Option Addr) (cap : Nat) (i o : Int) (p : Pk) (h : Sx B0 W0 nb sb S M kb mb vd (.slice A ls.length cap) ds ls bl T k P W) (hz : netV ds ls = 0) (hp : pkOk p = true) (hk : 0 <= k /\ k < 1000000) (hpe : peerF ls i o = some t) :
  Calls Tryz.prog 36 #[.int .i64 i,.int .i64 o,pkV p,.pointer (some ⟨nb,0,none⟩),.pointer (some ⟨sb,0,none⟩),.pointer (some ⟨kb,0,none⟩),.pointer (some ⟨mb,0,none⟩)] W fun e w'=>e = .returned (.tuple #[]) /\ Sx B0 W0 nb sb S M kb mb vd (.slice A ls.length cap) ds ls bl T k (addP P (some t) (codeN p)) w' /\ FrX bl mb W w':=by
 obtain ⟨b,hb⟩:=h.dom t (peer_isPl hz hpe);have hcl:=codeN_lt hp;have D1:=Below.alN (Below.refl W.heap.size W) (.cells #[.int .i64 p.s,.int .i64 p.d,.int .i64 p.sp,.int .i64 p.dp] 29);have Z1:=bk_new W #[.int .i64 p.s,.int .i64 p.d,.int .i64 p.sp,.int .i64 p.dp] 29;obtain ⟨n0,n1⟩:=(h.n.alloc (.cells #[.int .i64 p.s,.int .i64 p.d,.int .i64 p.sp,.int .i64 p.dp] 29)).two;have PE : Hid (∀ W',Below W.heap.size W W' -> Calls Tryz.prog 35 #[.agg #[vd,.slice A ls.length cap],.agg #[.int .i64 i,.int .i64 o]] W' fun e w'=>e = .returned (.tuple #[.agg #[.int .i64 t.1,.int .i64 t.2],.bool true]) /\ Below W'.heap.size W' w'):=fun W' hb'=>by
  have:=rpeer_any vd A ls.length cap ls i o W' ((h.grow hb').l.mono (h.grow hb').size);rw [hpe] at this;exact this
 have RC : Hid (∀ W',Calls Tryz.prog 37 #[pkV p] W' fun e w'=>e = .returned (.int .i64 (codeN p : Int)) /\ Below W'.heap.size W' w'):=fun W'=>rcode_any p W' hp;generalize codeN p = c at *;obtain ⟨s,d,sp,dp⟩:=p;obtain ⟨t1,t2⟩:=t;dsimp only at *;have kw : IntKind.i64.wrap (k + 1) = k + 1:=IntWalk.i64_in _ (by omega);have u1 : decide ((c : Int) < 0) = false:=by simp
 have u3 : (0 : Int) <= (c : Int):=by omega
 have u4 : (c : Int) < 16384:=by omega
 have u5 : (c : Int) <= ((16384 : Nat) : Int):=by omega
 have u2 : decide ((16384 : Int) <= (c : Int)) = false:=by simp;omega
 go_enter Tryz.func36,Tryz.ntmps36;go_wp2_with fail;refine (PE.out _ D1).mono ?_;rintro e w2 ⟨rfl,hb2⟩;have hx : Below w2.heap.size w2 (w2.alloc (.cells #[.int .i64 t1,.int .i64 t2] 27)):=Below.alN (Below.refl _ _) _;have X3:=h.grow (chain hx (chain hb2 D1));have Z3:=Bk.keep hx (Bk.keep hb2 Z1);have Y3:=bk_new w2 #[.int .i64 t1,.int .i64 t2] 27;have BW : Hid (Below W.heap.size W (w2.alloc (.cells #[.int .i64 t1,.int .i64 t2] 27))):=chain hx (chain hb2 D1);clear hx PE D1 Z1 hb2 n0 n1 h hpe hp;go_upto_region 2 with fail;generalize w2.alloc (.cells #[.int .i64 t1,.int .i64 t2] 27) = w3 at *;generalize w2.heap.size = z at *;obtain ⟨V,hV⟩ : ∃ V : World -> Prop,V = fun W'=>Below w3.heap.size w3 W':=⟨_,rfl⟩;have FXB : Hid (∀ {W' : World},V W' -> FrX bl mb W W'):=fun {W'} hv=>by
  rw [hV] at hv;exact FrX.of_below (chain hv BW.out)
 have FXS : Hid (∀ {W' : World},V W' -> FrX bl mb W ((W'.setCell ⟨b,c,none⟩ (.int .i64 (k + 1))).setCell ⟨mb,0,none⟩ (.bool true))):=fun {W'} hv=>by
  rw [hV] at hv;exact FrX.set (chain hv BW.out) hb
 clear BW;generalize W.heap.size = y at *;have V3 : V w3.drew:=by rw [hV];exact (Below.refl _ _).drew
 have XV : Hid (∀ {W' : World},V W' -> Sx B0 W0 nb sb S M kb mb vd (.slice A ls.length cap) ds ls bl T k P W'):=fun {W'} hv=>by
  rw [hV] at hv;exact X3.grow hv
 have RV : Hid (∀ {W' : World},V W' -> Calls Tryz.prog 37 #[.agg #[.int .i64 s,.int .i64 d,.int .i64 sp,.int .i64 dp]] W' fun e w'=>e = .returned (.int .i64 (c : Int)) /\ V w'):=fun {W'} hv=>by
  rw [hV] at hv ⊢;exact (RC.out W').mono fun e w' ⟨h1,h2⟩=>⟨h1,chain h2 hv⟩
 have HC : Hid (∀ {W' : World},V W' -> W'.cell? ⟨sb,0,none⟩ = some (.pointer (some ⟨S,0,none⟩)) /\ W'.cell? ⟨S,1,none⟩ = some (.map (some M)) /\ W'.cell? ⟨z,0,none⟩ = some (.int .i64 t1) /\ W'.cell? ⟨z,1,none⟩ = some (.int .i64 t2) /\ (Instr.lookup 42 (.map (some M)) (.agg #[.int .i64 t1,.int .i64 t2]) false).run Tryz.prog W' = .ok (.slice (some ⟨b,0,none⟩) 16384 16384) W' /\ W'.cell? ⟨y,0,none⟩ = some (.int .i64 s) /\ W'.cell? ⟨y,1,none⟩ = some (.int .i64 d) /\ W'.cell? ⟨y,2,none⟩ = some (.int .i64 sp) /\ W'.cell? ⟨y,3,none⟩ = some (.int .i64 dp) /\ W'.cell? ⟨b,c,none⟩ = some (.int .i64 (tabP T k P (t1,t2) c))):=fun {W'} hv=>by
  have X:=XV.out hv;rw [hV] at hv;obtain ⟨p0,p1,p2,p3,_⟩:=(Bk.keep hv Z3).four;obtain ⟨q0,q1⟩:=(Bk.keep hv Y3).two;exact ⟨X.s.one.1,X.S.two.2,q0,q1,X.look hb,p0,p1,p2,p3,(X.row _ b hb).1.cell hcl⟩
 have HD : Hid (∀ {W' : World},V W' -> W'.cell? ⟨sb,0,none⟩ = some (.pointer (some ⟨S,0,none⟩)) /\ W'.cell? ⟨S,1,none⟩ = some (.map (some M)) /\ W'.cell? ⟨z,0,none⟩ = some (.int .i64 t1) /\ W'.cell? ⟨z,1,none⟩ = some (.int .i64 t2) /\ (Instr.lookup 42 (.map (some M)) (.agg #[.int .i64 t1,.int .i64 t2]) false).run Tryz.prog W' = .ok (.slice (some ⟨b,0,none⟩) 16384 16384) W' /\ W'.cell? ⟨y,0,none⟩ = some (.int .i64 s) /\ W'.cell? ⟨y,1,none⟩ = some (.int .i64 d) /\ W'.cell? ⟨y,2,none⟩ = some (.int .i64 sp) /\ W'.cell? ⟨y,3,none⟩ = some (.int .i64 dp) /\ W'.cell? ⟨kb,0,none⟩ = some (.int .i64 k)):=fun {W'} hv=>by
  have X:=XV.out hv;obtain ⟨a0,a1,a2,a3,a4,a5,a6,a7,a8,a9⟩:=HC.out hv;exact ⟨a0,a1,a2,a3,a4,a5,a6,a7,a8,X.k.one.1⟩
 have ND : Hid (∀ {W' : World},V W' -> tabP T k P (t1,t2) c < 0 -> Sx B0 W0 nb sb S M kb mb vd (.slice A ls.length cap) ds ls bl T k (addP P (some (t1,t2)) c) ((W'.setCell ⟨b,c,none⟩ (.int .i64 (k + 1))).setCell ⟨mb,0,none⟩ (.bool true)) /\ FrX bl mb W ((W'.setCell ⟨b,c,none⟩ (.int .i64 (k + 1))).setCell ⟨mb,0,none⟩ (.bool true)) /\ ((W'.setCell ⟨b,c,none⟩ (.int .i64 (k + 1))).cell? ⟨mb,0,none⟩ = some (.bool (moreP bl T P)) /\ (W'.setCell ⟨b,c,none⟩ (.int .i64 (k + 1))).frozen? ⟨mb,0,none⟩ = false)):=fun {W'} hv hlt=>by
  have X:=XV.out hv;have hm : Bk (W'.setCell ⟨b,c,none⟩ (.int .i64 (k + 1))) mb #[.bool (moreP bl T P)] 4:=(Below.heap_setCell W' ⟨b,c,none⟩ _ mb (Ne.symm (X.ne hb).2.2.2.2.2)).trans X.m;exact ⟨X.put hb hcl hlt hk.1,FXS.out hv,hm.one⟩
 have RW : Hid (∀ {W' : World},V W' -> W'.cell? ⟨b,c,none⟩ = some (.int .i64 (tabP T k P (t1,t2) c)) /\ W'.frozen? ⟨b,c,none⟩ = false):=fun {W'} hv=>⟨((XV.out hv).row _ b hb).1.cell hcl,((XV.out hv).row _ b hb).1.fz c⟩;have VD : Hid (∀ {W' : World},V W' -> V W'.drew):=fun {W'} hv=>by
  rw [hV] at hv ⊢;exact hv.drew
 have HE : Hid (∀ {W' : World},V W' -> (fun W'=>W'.cell? ⟨sb,0,none⟩ = some (.pointer (some ⟨S,0,none⟩)) /\ W'.cell? ⟨S,1,none⟩ = some (.map (some M)) /\ W'.cell? ⟨z,0,none⟩ = some (.int .i64 t1) /\ W'.cell? ⟨z,1,none⟩ = some (.int .i64 t2) /\ (Instr.lookup 42 (.map (some M)) (.agg #[.int .i64 t1,.int .i64 t2]) false).run Tryz.prog W' = .ok (.slice (some ⟨b,0,none⟩) 16384 16384) W' /\ W'.cell? ⟨y,0,none⟩ = some (.int .i64 s) /\ W'.cell? ⟨y,1,none⟩ = some (.int .i64 d) /\ W'.cell? ⟨y,2,none⟩ = some (.int .i64 sp) /\ W'.cell? ⟨y,3,none⟩ = some (.int .i64 dp) /\ W'.cell? ⟨kb,0,none⟩ = some (.int .i64 k)) (W'.setCell ⟨b,c,none⟩ (.int .i64 (k + 1)))):=fun {W'} hv=>by
  have X:=XV.out hv;obtain ⟨n1,n2,n3,n4,n5,n6⟩:=X.ne hb;rw [hV] at hv;have Zv:=Bk.keep hv Z3;have Yv:=Bk.keep hv Y3;have R:=(X.row _ b hb).1;have h1 : ∀ j,j ≠ b -> (W'.setCell ⟨b,c,none⟩ (.int .i64 (k + 1))).heap[j]? = W'.heap[j]?:=fun j e=>Below.heap_setCell W' ⟨b,c,none⟩ _ j e;have Xs : Bk (W'.setCell ⟨b,c,none⟩ (.int .i64 (k + 1))) sb #[.pointer (some ⟨S,0,none⟩)] 39:=(h1 _ (Ne.symm n2)).trans X.s;have XS : Bk (W'.setCell ⟨b,c,none⟩ (.int .i64 (k + 1))) S #[.int .i64 0,.map (some M)] 44:=(h1 _ (Ne.symm n3)).trans X.S;have Xk : Bk (W'.setCell ⟨b,c,none⟩ (.int .i64 (k + 1))) kb #[.int .i64 k] 3:=(h1 _ (Ne.symm n5)).trans X.k;have Xz : Bk (W'.setCell ⟨b,c,none⟩ (.int .i64 (k + 1))) z #[.int .i64 t1,.int .i64 t2] 27:=(h1 _ (fun e=>R.ne2 Yv e.symm)).trans Yv;have Xy : Bk (W'.setCell ⟨b,c,none⟩ (.int .i64 (k + 1))) y #[.int .i64 s,.int .i64 d,.int .i64 sp,.int .i64 dp] 29:=(h1 _ (fun e=>R.ne4 Zv e.symm)).trans Zv;obtain ⟨p0,p1,p2,p3,_⟩:=Xy.four;have L : (Instr.lookup 42 (.map (some M)) (.agg #[.int .i64 t1,.int .i64 t2]) false).run Tryz.prog (W'.setCell ⟨b,c,none⟩ (.int .i64 (k + 1))) = .ok (.slice (some ⟨b,0,none⟩) 16384 16384) (W'.setCell ⟨b,c,none⟩ (.int .i64 (k + 1))):=by
   have:=(X.map.same (h1 M (Ne.symm n4))).look1 uMapP (x:=(t1,t2)) (X.row _ b hb).2.2;rw [hb] at this;exact this
  have Rn:=R.set hcl (k + 1);exact ⟨Xs.one.1,XS.two.2,Xz.two.1,Xz.two.2,L,p0,p1,p2,p3,Xk.one.1⟩
 have NN : Hid (∀ {W' : World},V W' -> ¬ tabP T k P (t1,t2) c < 0 -> Sx B0 W0 nb sb S M kb mb vd (.slice A ls.length cap) ds ls bl T k (addP P (some (t1,t2)) c) W' /\ FrX bl mb W W'):=fun {W'} hv hlt=>⟨(XV.out hv).nop hlt,FXB.out hv⟩;clear hV X3 Z3 Y3 RC XV hb FXB FXS;generalize tabP T k P (t1,t2) c = r at *;by_cases hlt : r < 0
 ·have f1 : decide (r < 0) = true:=by simpa using hlt
  go_region_held3 (fun W'=>W'.cell? ⟨sb,0,none⟩ = some (.pointer (some ⟨S,0,none⟩)) /\ W'.cell? ⟨S,1,none⟩ = some (.map (some M)) /\ W'.cell? ⟨z,0,none⟩ = some (.int .i64 t1) /\ W'.cell? ⟨z,1,none⟩ = some (.int .i64 t2) /\ (Instr.lookup 42 (.map (some M)) (.agg #[.int .i64 t1,.int .i64 t2]) false).run Tryz.prog W' = .ok (.slice (some ⟨b,0,none⟩) 16384 16384) W' /\ W'.cell? ⟨y,0,none⟩ = some (.int .i64 s) /\ W'.cell? ⟨y,1,none⟩ = some (.int .i64 d) /\ W'.cell? ⟨y,2,none⟩ = some (.int .i64 sp) /\ W'.cell? ⟨y,3,none⟩ = some (.int .i64 dp) /\ W'.cell? ⟨b,c,none⟩ = some (.int .i64 r)) (exact HC.out ‹_›)
   ((go_at_call 37;refine (RV.out ‹_›).mono ?_;rintro e w4 ⟨rfl,V4⟩))
  all_goals
   clear HC;have V4d : V w4.drew:=VD.out V4;go_wp2_with fail;refine wp_region_held_drew (S:=fun W'=>W'.cell? ⟨sb,0,none⟩ = some (.pointer (some ⟨S,0,none⟩)) /\ W'.cell? ⟨S,1,none⟩ = some (.map (some M)) /\ W'.cell? ⟨z,0,none⟩ = some (.int .i64 t1) /\ W'.cell? ⟨z,1,none⟩ = some (.int .i64 t2) /\ (Instr.lookup 42 (.map (some M)) (.agg #[.int .i64 t1,.int .i64 t2]) false).run Tryz.prog W' = .ok (.slice (some ⟨b,0,none⟩) 16384 16384) W' /\ W'.cell? ⟨y,0,none⟩ = some (.int .i64 s) /\ W'.cell? ⟨y,1,none⟩ = some (.int .i64 d) /\ W'.cell? ⟨y,2,none⟩ = some (.int .i64 sp) /\ W'.cell? ⟨y,3,none⟩ = some (.int .i64 dp) /\ W'.cell? ⟨kb,0,none⟩ = some (.int .i64 k)) (by kernel_rfl) (HD.out V4d) (fun hHeld=>?_);refine tk 0 ?_;try simp only [ly]
   refine tk 1 ?_;try simp only [ly]
   refine tk 2 ?_;try simp only [ly]
   refine tk 3 ?_;try simp only [ly]
   refine tk 4 ?_;try simp only [ly]
   refine tk 5 ?_;try simp only [ly]
   refine tk 6 ?_;try simp only [ly]
   refine tk 8 ?_;try simp only [ly]
   refine tk 9 ?_;try simp only [ly]
   refine rd 7 (fun K hK=>?_);go_simp;with_reducible refine (RV.out V4d).mono ?_
   rintro e w5 ⟨rfl,V5⟩;have S5:=HD.out V5;dsimp only;clear hHeld;refine hK.out _ _ S5 (fun hHeld=>?_);clear hK K;try simp only [ly]
   refine tk 10 ?_;try simp only [ly]
   refine rd 11 (fun K hK=>?_);obtain ⟨g0,g1⟩:=RW.out V5;go_simp;clear hHeld;refine hK.out _ _ (HE.out V5) (fun hHeld=>?_);clear hK K;refine wpAnyH_done (by kernel_rfl) ?_ _;all_goals
    obtain ⟨N1,NF,N2,N3⟩:=ND.out ‹_› hlt;go_wp2_with fail
    go_returns
    exact ⟨rfl,N1,NF⟩
 ·have f1 : decide (r < 0) = false:=by simpa using hlt
  go_region_held3 (fun W'=>W'.cell? ⟨sb,0,none⟩ = some (.pointer (some ⟨S,0,none⟩)) /\ W'.cell? ⟨S,1,none⟩ = some (.map (some M)) /\ W'.cell? ⟨z,0,none⟩ = some (.int .i64 t1) /\ W'.cell? ⟨z,1,none⟩ = some (.int .i64 t2) /\ (Instr.lookup 42 (.map (some M)) (.agg #[.int .i64 t1,.int .i64 t2]) false).run Tryz.prog W' = .ok (.slice (some ⟨b,0,none⟩) 16384 16384) W' /\ W'.cell? ⟨y,0,none⟩ = some (.int .i64 s) /\ W'.cell? ⟨y,1,none⟩ = some (.int .i64 d) /\ W'.cell? ⟨y,2,none⟩ = some (.int .i64 sp) /\ W'.cell? ⟨y,3,none⟩ = some (.int .i64 dp) /\ W'.cell? ⟨b,c,none⟩ = some (.int .i64 r)) (exact HC.out ‹_›)
   ((go_at_call 37;refine (RV.out ‹_›).mono ?_;rintro e w4 ⟨rfl,V4⟩))
  all_goals
   obtain ⟨N4,NF⟩:=NN.out V4 hlt;go_wp2_with fail
   go_returns
   exact ⟨rfl,N4,NF⟩
end
theorem infoIntP : ∃ i,Tryz.prog.info? 3 = some i /\ i.zero = some (.int .i64 0) /\ i.size = 1 /\ i.bytes = 8:=by
 have h : (Tryz.prog.info? 3).map (fun i=>(i.zero,i.size,i.bytes)) = some (some (.int .i64 0),1,8):=by kernel_rfl
 cases hi : Tryz.prog.info? 3 with
 | none=>simp [hi] at h
 | some i =>
   simp [hi] at h;exact ⟨i,rfl,h.1,h.2.1,h.2.2⟩
theorem uIntsP : Tryz.prog.underlying 50 = some (.slice 3):=by kernel_rfl
def zeroRow : Array Value:=madeCells #[.int .i64 0] 16384
theorem mk_row (w : World) : (Instr.makeSlice 50 (.int .i64 16384) (.int .i64 16384)).run Tryz.prog w = .ok (.slice (some ⟨w.heap.size,0,none⟩) 16384 16384) (w.alloc (.cells zeroRow 3)):=by
 obtain ⟨i,h1,h2,h3,h4⟩:=infoIntP;have:=run_makeSlice (P:=Tryz.prog) w 50 3 i (.int .i64 0) uIntsP h1 h2 .i64 .i64 16384 16384 (by omega) (by omega) (by rw [h3];decide) (by rw [h4];omega) (by omega);rw [h3] at this;exact this
theorem row_zero (w : World) : RowI (w.alloc (.cells zeroRow 3)) w.heap.size (fun _=>0):=by
 refine ⟨zeroRow,bk_new w _ _,size_madeCells _ _,fun c hc=>?_⟩;unfold zeroRow madeCells;rw [Array.getElem?_map,Array.getElem?_range,if_pos hc];simp [Nat.mod_one]
structure Sy (B0 : Nat) (W0 : World) (nb sb S M : Nat) (vd vl : Value) (ds : List Dv) (ls : List Lk) (bl : (Int × Int) -> Option Nat) (nn : Nat) (D : (Int × Int) -> Prop) (T : Tab) (W : World) : Prop where
 bel : Below B0 W0 W
 d : Devs B0 W vd ds
 l : Links B0 W vl ls
 n : Bk W nb #[vd,vl] 25
 s : Bk W sb #[.pointer (some ⟨S,0,none⟩)] 39
 S : Bk W S #[.int .i64 0,.map (some M)] 44
 map : MapAt plcE rowE W M nn (fun t=>(bl t).map some)
 row : ∀ t b,bl t = some b -> RowI W b (T t) /\ B0 <= b /\ prtOk t
 inj : ∀ t t' b,bl t = some b -> bl t' = some b -> t = t'
 dom : ∀ t,D t -> ∃ b,bl t = some b
 lo : B0 <= M
section
variable {B0 : Nat} {W0 W W' : World} {nb sb S M kb mb n : Nat} {vd vl : Value} {ds : List Dv} {ls : List Lk} {bl : (Int × Int) -> Option Nat} {D : (Int × Int) -> Prop} {T : Tab} {k : Int} {P : PutS} {t : Int × Int} {b c : Nat}
theorem Sy.size (h : Sy B0 W0 nb sb S M vd vl ds ls bl n D T W) : B0 <= W.heap.size:=Nat.le_trans h.lo (Nat.le_of_lt h.map.lt)
theorem Sy.grow (h : Sy B0 W0 nb sb S M vd vl ds ls bl n D T W) (hb : Below W.heap.size W W') : Sy B0 W0 nb sb S M vd vl ds ls bl n D T W' :=
 ⟨h.bel.trans (hb.mono h.size),h.d.below (hb.mono h.size),h.l.below (hb.mono h.size),Bk.keep hb h.n,Bk.keep hb h.s,Bk.keep hb h.S,h.map.same (hb.block _ h.map.lt),fun t b e=>⟨(h.row t b e).1.below hb,(h.row t b e).2⟩,h.inj,h.dom,h.lo⟩
theorem Sy.weak {n' : Nat} {D' : (Int × Int) -> Prop} (h : Sy B0 W0 nb sb S M vd vl ds ls bl n D T W) (hn : n <= n') (hD : ∀ t,D' t -> D t) : Sy B0 W0 nb sb S M vd vl ds ls bl n' D' T W :=
 ⟨h.bel,h.d,h.l,h.n,h.s,h.S,h.map.mono hn,h.row,h.inj,fun t ht=>h.dom t (hD t ht),h.lo⟩
theorem Sy.look (h : Sy B0 W0 nb sb S M vd vl ds ls bl n D T W) (hb : bl t = some b) : (Instr.lookup 42 (.map (some M)) (.agg #[.int .i64 t.1,.int .i64 t.2]) false).run Tryz.prog W = .ok (.slice (some ⟨b,0,none⟩) 16384 16384) W:=by
 have:=h.map.look1 uMapP (x:=t) (h.row t b hb).2.2;rw [hb] at this;exact this
theorem Sy.ne (h : Sy B0 W0 nb sb S M vd vl ds ls bl n D T W) (hb : bl t = some b) : b ≠ nb /\ b ≠ sb /\ b ≠ S /\ b ≠ M :=
 have r:=(h.row t b hb).1
 ⟨r.ne2 h.n,r.ne h.s,r.ne2 h.S,r.map h.map⟩
theorem Sy.put (h : Sy B0 W0 nb sb S M vd vl ds ls bl n D T W) (hb : bl t = some b) (hc : c < 16384) (x : Int) {T' : Tab} (hT : ∀ t' c',T' t' c' = if t' = t /\ c' = c then x else T t' c') : Sy B0 W0 nb sb S M vd vl ds ls bl n D T' (W.setCell ⟨b,c,none⟩ (.int .i64 x)):=by
 obtain ⟨n1,n2,n3,n4⟩:=h.ne hb;have hB:=(h.row t b hb).2.1;have h1 : ∀ j,j ≠ b -> (W.setCell ⟨b,c,none⟩ (.int .i64 x)).heap[j]? = W.heap[j]?:=fun j e=>Below.heap_setCell W ⟨b,c,none⟩ _ j e;have hbel : Below B0 W (W.setCell ⟨b,c,none⟩ (.int .i64 x)):=(Below.refl B0 W).setCell (p:=⟨b,c,none⟩) hB _;refine ⟨h.bel.trans hbel,h.d.below hbel,h.l.below hbel,(h1 _ (Ne.symm n1)).trans h.n,(h1 _ (Ne.symm n2)).trans h.s,(h1 _ (Ne.symm n3)).trans h.S,h.map.same (h1 _ (Ne.symm n4)),fun t' b' e=>?_,h.inj,h.dom,h.lo⟩;obtain ⟨r1,r2,r3⟩:=h.row t' b' e;refine ⟨?_,r2,r3⟩;by_cases htt : t' = t
 ·subst htt;rw [hb] at e;cases e;have:=r1.set hc x;have hf : (fun c'=>if c' = c then x else T t' c') = T' t':=funext fun c'=>by
   rw [hT];by_cases e : c' = c
   ·rw [if_pos e,if_pos ⟨rfl,e⟩]
   ·rw [if_neg e,if_neg (fun h=>e h.2)]
  rw [hf] at this;exact this
 ·have hbb : b' ≠ b:=fun e'=>htt (h.inj t' t b' e (by rw [e'];exact hb));have:=r1.same (h1 b' hbb);have hf : T t' = T' t':=funext fun c'=>by
   rw [hT,if_neg (fun h=>htt h.1)]
  rw [hf] at this;exact this
theorem Sy.add (h : Sy B0 W0 nb sb S M vd vl ds ls bl n D T W) (hn : n <= 100) (hr : RowI W b (T t)) (hb : B0 <= b) (ht : prtOk t) (hnew : ∀ t',bl t' ≠ some b) :
  ∃ W',(Instr.mapUpdate 42 (.map (some M)) (.agg #[.int .i64 t.1,.int .i64 t.2]) (.slice (some ⟨b,0,none⟩) 16384 16384)).run Tryz.prog W = .ok () W' /\ Sy B0 W0 nb sb S M vd vl ds ls (fun t'=>if t' = t then some b else bl t') (n + 1) (fun t'=>t' = t ∨ D t') T W':=by
 obtain ⟨W',hrun,hm,ht'⟩:=h.map.store uMapP (by unfold maxLen;omega) (x:=t) ht (some b);have h1 : ∀ j,j < W.heap.size -> j ≠ M -> W'.heap[j]? = W.heap[j]?:=fun j hj hne=>ht'.grown.block j hj (fun e=>hne (by cases e;rfl));have hsz : W.heap.size <= W'.heap.size:=ht'.grown.size;have hbel : Below B0 W W':=⟨ht'.grown.os,ht'.grown.tape,ht'.grown.output,hsz,fun j hj=>h1 j (Nat.lt_of_lt_of_le hj h.size) (by have:=h.lo;omega)⟩;have nm : ∀ {k' : Nat} {cs : Array Value} {ty : TypeId},Bk W k' cs ty -> Bk W' k' cs ty:=fun {k' cs ty} hk=>(h1 _ hk.lt (fun e=>by
  subst e;obtain ⟨es,cl,h2⟩:=h.map.isMap;rw [hk] at h2;cases h2)).trans hk
 have nr : ∀ {b' : Nat} {g : Nat -> Int},RowI W b' g -> RowI W' b' g:=fun {b' g} r=>r.same (h1 _ r.lt (r.map h.map));refine ⟨W',hrun,h.bel.trans hbel,h.d.below hbel,h.l.below hbel,nm h.n,nm h.s,nm h.S,?_,fun t' b' e=>?_,fun t1 t2 b' e1 e2=>?_,fun t' hd=>?_,h.lo⟩
 ·have : (fun t'=>(if t' = t then some b else bl t').map some) = putF (fun t=>(bl t).map some) t (some b):=by
   funext t'
   by_cases e : t' = t
   ·subst e;rw [if_pos rfl,putF_same];rfl
   ·rw [if_neg e,putF_other _ _ e]
  rw [this];exact hm
 ·by_cases e' : t' = t
  ·subst e';rw [if_pos rfl] at e;cases e;exact ⟨nr hr,hb,ht⟩
  ·rw [if_neg e'] at e;obtain ⟨r1,r2⟩:=h.row t' b' e;exact ⟨nr r1,r2⟩
 ·by_cases e3 : t1 = t <;> by_cases e4 : t2 = t
  ·rw [e3,e4]
  ·rw [if_pos e3] at e1;rw [if_neg e4] at e2;cases e1;exact absurd e2 (hnew t2)
  ·rw [if_neg e3] at e1;rw [if_pos e4] at e2;cases e2;exact absurd e1 (hnew t1)
  ·rw [if_neg e3] at e1;rw [if_neg e4] at e2;exact h.inj t1 t2 b' e1 e2
 ·by_cases e : t' = t
  ·exact ⟨b,if_pos e⟩
  ·obtain ⟨b',hb'⟩:=h.dom t' (hd.resolve_left e);exact ⟨b',by rw [if_neg e];exact hb'⟩
theorem Sx.toY (h : Sx B0 W0 nb sb S M kb mb vd vl ds ls bl T k P W) (hM : B0 <= M) : Sy B0 W0 nb sb S M vd vl ds ls bl 40 (fun t=>isPl ds t.1 t.2 = true) (tabP T k P) W :=
 ⟨h.bel,h.d,h.l,h.n,h.s,h.S,h.map,h.row,h.inj,h.dom,hM⟩
def noP : PutS:=fun _ _=>False
theorem tabP_no : tabP T k noP = T:=by
 funext t c
 unfold tabP noP;rw [if_neg (fun h=>h.2)]
theorem moreP_no : moreP bl T noP = false:=by
 unfold moreP;refine @decide_eq_false _ (Classical.propDecidable _) ?_;rintro ⟨t,c,_,_,_,h⟩;exact h
theorem Sy.toX (h : Sy B0 W0 nb sb S M vd vl ds ls bl 40 (fun t=>isPl ds t.1 t.2 = true) T W) (hk : Bk W kb #[.int .i64 k] 3) (hm : Bk W mb #[.bool false] 4) (hl : B0 <= mb) : Sx B0 W0 nb sb S M kb mb vd vl ds ls bl T k noP W :=
 ⟨h.bel,h.d,h.l,h.n,h.s,h.S,h.map,fun t b e=>by rw [tabP_no];exact h.row t b e,h.inj,hk,by rw [moreP_no];exact hm,hl,h.dom⟩
end
end Go.Proofs.YtppbfikimalojaaGreat
