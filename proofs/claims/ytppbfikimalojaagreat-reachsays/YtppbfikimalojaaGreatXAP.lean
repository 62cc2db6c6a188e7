/-
  XAP.
-/
import Derived.Test.YtppbfikimalojaaGreatXAO
import Derived.Test.YtppbfikimalojaaGreatXAN
import Derived.Test.YtppbfikimalojaaGreatXAM
import Derived.Test.YtppbfikimalojaaGreatXLy
import Derived.BigQuiet
import Derived.Deep.RegionHeld3
import Derived.Test.YtppbfikimalojaaGreatXAL
set_option maxHeartbeats 8000000
set_option maxRecDepth 100000
namespace Go.Proofs.YtppbfikimalojaaGreat
open Go.RowKit Go.Maps
structure SpV (ds : List Dv) (ls : List Lk) (S M : Nat) (bl : (Int × Int) -> Option Nat) (T : Tab) (k : Nat) (W : World) : Prop where
 S : Bk W S #[.int .i64 (k : Int),.map (some M)] 44
 map : MapAt plcE rowE W M 40 (fun t=>(bl t).map some)
 row : ∀ t b,bl t = some b -> RowI W b (T t)
 dom : ∀ t,(∃ b,bl t = some b) ↔ isPl ds t.1 t.2 = true
 inv : KInv ds ls T k
 fix : ∀ t c,isPl ds t.1 t.2 = true -> c < 16384 -> (SetP ds ls (k + 1) t (pkN c) ↔ SetP ds ls k t (pkN c))
def kMeas (s : Value) (W : World) : Nat:=655361 - (match s with | .pointer (some a)=>(match W.cell? a with | some v=>(intOf v).toNat | none=>0) | _=>0)
theorem kMeas_at {W : World} {kb k : Nat} (h : Bk W kb #[.int .i64 (k : Int)] 3) : kMeas (.pointer (some ⟨kb,0,none⟩)) W = 655361 - k:=by
 unfold kMeas;have:=h.one.1;simp [this,intOf]
theorem spread_any (A L : Option Addr) (cap cap' : Nat) (ds : List Dv) (ls : List Lk) (w : World) (hz : Hid (netV ds ls = 0)) (hD : Hid (Devs w.heap.size w (.slice A ds.length cap) ds)) (hL : Hid (Links w.heap.size w (.slice L ls.length cap') ls))
  (DH : Hid (∀ (sb S M kb mb : Nat) (bl : (Int × Int) -> Option Nat) (T : Tab) (k : Int) (P : PutS) (W : World) (i : Nat) (d : Dv),Sx w.heap.size w w.heap.size sb S M kb mb (.slice A ds.length cap) (.slice L ls.length cap') ds ls bl T k P W -> 0 <= k /\ k < 1000000 -> ds[i]? = some d -> (∀ c,c < 16384 -> 1 < portsV d.kind -> wasB T k ((i : Int),1) c = true -> (peerF ls (i : Int) 1).isSome = true) -> Calls Tryz.prog 38 #[.pointer (some ⟨S,0,none⟩),.agg #[.slice A ds.length cap,.slice L ls.length cap'],.int .i64 (i : Int),.int .i64 k,.func (.func 36) #[] #[.pointer (some ⟨w.heap.size,0,none⟩),.pointer (some ⟨sb,0,none⟩),.pointer (some ⟨kb,0,none⟩),.pointer (some ⟨mb,0,none⟩)]] W fun e w'=>e = .returned (.tuple #[]) /\ Sx w.heap.size w w.heap.size sb S M kb mb (.slice A ds.length cap) (.slice L ls.length cap') ds ls bl T k (un P (devP d (i : Int) ls T k)) w')) :
  Calls Tryz.prog 9 #[.agg #[.slice A ds.length cap,.slice L ls.length cap']] w fun e w'=>∃ (S M : Nat) (bl : (Int × Int) -> Option Nat) (T : Tab) (k : Nat),e = .returned (.pointer (some ⟨S,0,none⟩)) /\ SpV ds ls S M bl T k w' /\ Below w.heap.size w w':=by
 have hmm:=@run_makeMap Tryz.prog;have hlen:=(netV_links hz.out).1;have B1:=Below.alN (Below.refl w.heap.size w) (.cells #[.slice A ds.length cap,.slice L ls.length cap'] 25);have N1:=bk_new w #[.slice A ds.length cap,.slice L ls.length cap'] 25;go_enter Tryz.func9,Tryz.ntmps9;go_upto_region 2 with fail;have SY0 : Sy w.heap.size w w.heap.size (w.heap.size + 1 + 1 + 1) (w.heap.size + 1 + 1) (w.heap.size + 1) (.slice A ds.length cap) (.slice L ls.length cap') ds ls (fun _=>none) (0 * 4) (DomP ds 0 0) (fun _ _=>-1) ((((w.alloc (.cells #[.slice A ds.length cap,.slice L ls.length cap'] 25)).alloc (.map #[] 0)).alloc (.cells #[.int .i64 0,.map (some (w.heap.size + 1))] 44)).alloc (.cells #[.pointer (some ⟨w.heap.size + 1 + 1,0,none⟩)] 39)):=by
  have M1 : MapAt plcE rowE ((w.alloc (.cells #[.slice A ds.length cap,.slice L ls.length cap'] 25)).alloc (.map #[] 0)) (w.heap.size + 1) 0 (fun _=>none):=by
   have:=mapAt_made plcE rowE (w.alloc (.cells #[.slice A ds.length cap,.slice L ls.length cap'] 25));rw [World.size_alloc] at this;exact this
  have h2 : Below w.heap.size w ((w.alloc (.cells #[.slice A ds.length cap,.slice L ls.length cap'] 25)).alloc (.map #[] 0)):=Below.alN B1 _;have h3 : Below w.heap.size w _:=Below.alN h2 (.cells #[.int .i64 0,.map (some (w.heap.size + 1))] 44);have h4 : Below w.heap.size w _:=Below.alN h3 (.cells #[.pointer (some ⟨w.heap.size + 1 + 1,0,none⟩)] 39);refine ⟨h4,hD.out.below h4,hL.out.below h4,((N1.alloc _).alloc _).alloc _,bk_new' _ _ _ _ (by simp),(bk_new' _ _ _ _ (by simp)).alloc _,?_,(fun _ _ h=>by cases h),(fun _ _ _ h=>by cases h),(fun t h=>?_),by omega⟩
  ·refine MapAt.same (w:=(w.alloc (.cells #[.slice A ds.length cap,.slice L ls.length cap'] 25)).alloc (.map #[] 0)) M1 ?_;exact ((Below.alN (Below.refl _ _) _).block _ (by simp)).trans ((Below.alN (Below.refl _ _) _).block _ (by simp))
  ·have h1:=h.1;have h2:=h.2;unfold isPl at h1;simp only [Bool.and_eq_true,decide_eq_true_eq] at h1;omega
 have HDV : Hid (∀ (i : Nat) (d : Dv),ds[i]? = some d -> ∃ b o,A = some ⟨b,o,none⟩ /\ ∀ (bl : (Int × Int) -> Option Nat) (n : Nat) (D : (Int × Int) -> Prop) (T : Tab) (W : World),Sy w.heap.size w w.heap.size (w.heap.size + 1 + 1 + 1) (w.heap.size + 1 + 1) (w.heap.size + 1) (.slice A ds.length cap) (.slice L ls.length cap') ds ls bl n D T W -> W.cell? ⟨b,o + i * 7 + 1,none⟩ = some (.int .i64 d.kind) /\ W.cell? ⟨b,o + i * 7 + 2,none⟩ = some (.int .i64 d.addr)):=fun i d hd=>by
  obtain ⟨b,o,vb,vr,vt,e,hlt,_,_,_,_,c1,c2,_⟩:=hD.out.at hd;exact ⟨b,o,e,fun bl n D T W hS=>⟨(hS.bel.cell (p:=⟨b,o + i * 7 + 1,none⟩) hlt).trans c1,(hS.bel.cell (p:=⟨b,o + i * 7 + 2,none⟩) hlt).trans c2⟩⟩
 generalize (((w.alloc (.cells #[.slice A ds.length cap,.slice L ls.length cap'] 25)).alloc (.map #[] 0)).alloc (.cells #[.int .i64 0,.map (some (w.heap.size + 1))] 44)).alloc (.cells #[.pointer (some ⟨w.heap.size + 1 + 1,0,none⟩)] 39) = w1 at *;obtain ⟨Y,hY⟩ : ∃ Y : ((Int × Int) -> Option Nat) -> Nat -> ((Int × Int) -> Prop) -> Tab -> World -> Prop,Y = fun bl n D T W=>Sy w.heap.size w w.heap.size (w.heap.size + 1 + 1 + 1) (w.heap.size + 1 + 1) (w.heap.size + 1) (.slice A ds.length cap) (.slice L ls.length cap') ds ls bl n D T W:=⟨_,rfl⟩;have Y0 : Y (fun _=>none) (0 * 4) (DomP ds 0 0) (fun _ _=>-1) w1:=by rw [hY];exact SY0
 have YC : Hid (∀ {bl n D T W},Y bl n D T W -> W.cell? ⟨w.heap.size,0,none⟩ = some (.slice A ds.length cap) /\ W.cell? ⟨w.heap.size,1,none⟩ = some (.slice L ls.length cap') /\ W.cell? ⟨w.heap.size + 1 + 1 + 1,0,none⟩ = some (.pointer (some ⟨w.heap.size + 1 + 1,0,none⟩)) /\ W.cell? ⟨w.heap.size + 1 + 1,1,none⟩ = some (.map (some (w.heap.size + 1)))):=fun {bl n D T W} h=>by
  rw [hY] at h;exact ⟨h.n.two.1,h.n.two.2,h.s.one.1,h.S.two.2⟩
 have YB : Hid (∀ {bl n D T W W'},Y bl n D T W -> Below W.heap.size W W' -> Y bl n D T W'):=fun {bl n D T W W'} h hb=>by
  rw [hY] at h ⊢;exact h.grow hb
 have YD : Hid (∀ (i : Nat) (d : Dv),ds[i]? = some d -> ∃ b o,A = some ⟨b,o,none⟩ /\ Hid (∀ {bl n D T W},Y bl n D T W -> W.cell? ⟨b,o + i * 7 + 1,none⟩ = some (.int .i64 d.kind) /\ W.cell? ⟨b,o + i * 7 + 2,none⟩ = some (.int .i64 d.addr))):=fun i d hd=>by
  obtain ⟨b,o,e,h⟩:=HDV.out i d hd;exact ⟨b,o,e,fun {bl n D T W} hS=>by rw [hY] at hS;exact h _ _ _ _ _ hS⟩
 have YN : Hid (∀ {bl n D T W},Y bl n D T W -> Y bl n D T (W.alloc (.cells zeroRow 3)) /\ (∀ t,bl t ≠ some W.heap.size) /\ ∀ j u W',Y bl n D T W' -> Y bl n D T (W'.setCell ⟨W.heap.size,j,none⟩ u)):=fun {bl n D T W} h=>by
  rw [hY] at h ⊢;have hr : ∀ t,bl t ≠ some W.heap.size:=fun t e=>by
   have:=(h.row t _ e).1.lt;omega
  have l1:=h.n.lt;have l2:=h.s.lt;have l3:=h.S.lt;have l4:=h.map.lt;exact ⟨h.grow (Below.alN (Below.refl _ _) _),hr,fun j u W' h'=>h'.far h.size ⟨by omega,by omega,by omega,by omega⟩ hr u⟩
 have YA : Hid (∀ {bl : (Int × Int) -> Option Nat} {n : Nat} {D : (Int × Int) -> Prop} {W : World} (b : Nat) (t : Int × Int),Y bl n D (fun _ _=>-1) W -> n <= 100 -> RowI W b (fun _=>-1) -> w.heap.size <= b -> isPl ds t.1 t.2 = true -> (∀ t',bl t' ≠ some b) -> ∃ W',(Instr.mapUpdate 42 (.map (some (w.heap.size + 1))) (.agg #[.int .i64 t.1,.int .i64 t.2]) (.slice (some ⟨b,0,none⟩) 16384 16384)).run Tryz.prog W = .ok () W' /\ Y (fun t'=>if t' = t then some b else bl t') (n + 1) (fun t'=>t' = t ∨ D t') (fun _ _=>-1) W'):=fun {bl n D W} b t h hn hr hb ht hnew=>by
  rw [hY] at h ⊢;exact h.add hn hr hb (prt_of hlen ht) hnew
 have YW : Hid (∀ {bl n n' T W} {D D' : (Int × Int) -> Prop},Y bl n D T W -> n <= n' -> (∀ t,D' t -> D t) -> Y bl n' D' T W):=fun {bl n n' T W D D'} h hn hDD=>by
  rw [hY] at h ⊢;exact h.weak hn hDD
 have hmk:=@mk_row;clear SY0 HDV B1 N1;obtain ⟨c0,c1,c2,c3⟩:=YC.out Y0;go_wp2_with fail;go_loopw [4] (fun s wr=>∃ (i : Nat) (bl : (Int × Int) -> Option Nat),s = .int .i64 (i : Int) /\ i <= ds.length /\ Y bl (i * 4) (DomP ds i 0) (fun _ _=>-1) wr /\ Hid (OnlyP ds bl)) (fun s _=>ds.length - (intOf s).toNat)
 case atStart=>exact ⟨0,fun _=>none,rfl,by omega,Y0,fun _ _ h=>by cases h⟩
 case round =>
  clear Y0 c0 c1 c2 c3;obtain ⟨i,bl,rfl,hi,Y1,HO⟩:=hrel;obtain ⟨c0,c1,c2,c3⟩:=YC.out Y1;by_cases hlt : i < ds.length
  ·obtain ⟨d,hd⟩ : ∃ d,ds[i]? = some d:=⟨_,List.getElem?_eq_getElem hlt⟩;obtain ⟨b,o,rfl,hdc⟩:=YD.out i d hd;have i1 : (i : Int) < (ds.length : Int):=by omega
   have i0 : (0 : Int) <= (i : Int):=by omega
   obtain ⟨Pn,hPn,hP4⟩ : ∃ Pn : Nat,portsV d.kind = (Pn : Int) /\ Pn <= 4:=by
    unfold portsV
    repeat' split
    all_goals first | exact ⟨0,rfl,by omega⟩ | exact ⟨1,rfl,by omega⟩ | exact ⟨2,rfl,by omega⟩ | exact ⟨4,rfl,by omega⟩
   have PO : Hid (∀ W : World,Calls Tryz.prog 19 #[.int .i64 d.kind] W fun e w'=>e = .returned (.int .i64 (Pn : Int)) /\ Below W.heap.size W w'):=fun W=>by rw [<- hPn];exact rports_any d.kind W
   have HP : Hid (∀ q : Nat,q < Pn -> isPl ds (i : Int) (q : Int) = true):=fun q hq=>isPl_of hd (by rw [hPn];omega);have HE : Hid (∀ t : Int × Int,DomP ds (i + 1) 0 t -> DomP ds i Pn t):=fun t ht=>⟨ht.1,by
    have h2:=ht.2;by_cases e : t.1 < (i : Int)
    ·exact Or.inl e
    ·have e1 : t.1 = (i : Int):=by
      have h1:=ht.1;unfold isPl at h1;simp only [Bool.and_eq_true,decide_eq_true_eq] at h1;omega
     have h1:=ht.1;rw [e1] at h1;have:=(isPl_at hd h1).2;exact Or.inr ⟨e1,by rw [<- hPn];exact this⟩⟩
   clear hd hPn;go_wp2_with fail;go_loopw [5] (fun s wr=>∃ (q : Nat) (bl : (Int × Int) -> Option Nat),s = .int .i64 (q : Int) /\ q <= Pn /\ Y bl (i * 4 + q) (DomP ds i q) (fun _ _=>-1) wr /\ Hid (OnlyP ds bl)) (fun s _=>Pn - (intOf s).toNat)
   case atStart=>exact ⟨0,bl,rfl,by omega,Y1,HO⟩
   case round =>
    clear Y1 HO c0 c1 c2 c3;obtain ⟨q,bl,rfl,hq,Y2,HO⟩:=hrel;obtain ⟨c0,c1,c2,c3⟩:=YC.out Y2;obtain ⟨k1,k2⟩:=hdc.out Y2;by_cases hqP : q < Pn
    ·have q1 : (q : Int) < (Pn : Int):=by omega
     have hpl:=HP.out q hqP;go_wp2_with fail;refine (PO.out _).mono ?_;rintro e w3 ⟨rfl,hb3⟩;have Y3:=YB.out Y2 hb3;clear Y2 hb3 c0 c1 c2 c3 k1 k2;obtain ⟨Y4,hnew,hfar⟩:=YN.out Y3;have R4:=row_zero w3;have hb0 : w.heap.size <= w3.heap.size:=by
      rw [hY] at Y3;exact Y3.size
     go_upto_region 9 with fail;generalize w3.alloc (.cells zeroRow 3) = w4 at *;generalize w3.heap.size = nb at *;have hfar:=Hid.of hfar;clear Y3;go_wp2_with fail;go_loopw [7] (fun s wr=>∃ c : Nat,s = .int .i64 (c : Int) /\ c <= 16384 /\ Y bl (i * 4 + q) (DomP ds i q) (fun _ _=>-1) wr /\ RowI wr nb (fun c'=>if c' < c then -1 else 0)) (fun s _=>16384 - (intOf s).toNat)
     case atStart=>exact ⟨0,rfl,by omega,Y4,R4.congr (fun c _=>by simp)⟩
     case round =>
      clear Y4 R4;obtain ⟨c,rfl,hc,Y5,R5⟩:=hrel;by_cases hcl : c < 16384
      ·have c1' : (c : Int) < 16384:=by omega
       have c0' : (0 : Int) <= (c : Int):=by omega
       have cc:=R5.cell hcl;have cf:=R5.fz c;have Y6:=hfar.out c (.int .i64 (-1)) _ Y5;have R6 : RowI (wr.setCell ⟨nb,c,none⟩ (.int .i64 (-1))) nb (fun c'=>if c' < c + 1 then -1 else 0):=(R5.set hcl (-1)).congr (fun c' _=>by
        by_cases e : c' = c
        ·subst e;rw [if_pos rfl,if_pos (by omega)]
        ·rw [if_neg e];by_cases e2 : c' < c
         ·rw [if_pos e2,if_pos (by omega)]
         ·rw [if_neg e2,if_neg (by omega)])
       rw [if_neg (by omega)] at cc;clear Y5 R5;go_wp2_with fail;go_roundw
       case rel=>exact ⟨c + 1,by go_num,by omega,Y6,R6⟩
       case measure=>first | omega | (simp [intOf];omega) | simp [intOf]
      ·have hce : c = 16384:=by omega
       have c1' : ¬ (c : Int) < 16384:=by omega
       have R6 : RowI wr nb (fun _=>-1):=R5.congr (fun c' h=>by rw [if_pos (by omega)]);obtain ⟨W7,hrun,Y7⟩:=YA.out nb ((i : Int),(q : Int)) Y5 (by omega) R6 hb0 hpl hnew;have Y8:=YW.out (n':=i * 4 + (q + 1)) (D':=DomP ds i (q + 1)) Y7 (by omega) (fun t ht=>by
        by_cases e : t = ((i : Int),(q : Int))
        ·exact Or.inl e
        ·refine Or.inr ⟨ht.1,?_⟩;have h2:=ht.2;by_cases e2 : t.1 = (i : Int)
         ·have : t.2 ≠ (q : Int):=fun e3=>e (Prod.ext e2 e3);omega
         ·omega)
       have HO8 : Hid (OnlyP ds (fun t'=>if t' = ((i : Int),(q : Int)) then some nb else bl t')):=fun t b' e=>by
        by_cases e' : t = ((i : Int),(q : Int))
        ·subst e';exact hpl
        ·dsimp only at e;rw [if_neg e'] at e;exact HO.out t b' e
       obtain ⟨c0,c1,c2,c3⟩:=YC.out Y5;clear Y7 Y5 R5 R6 hce HO;go_wp2_with fail;go_roundw
       case rel=>exact ⟨q + 1,_,by go_num,by omega,Y8,HO8⟩
       case measure=>first | omega | (simp [intOf];omega) | simp [intOf]
    ·obtain rfl : q = Pn:=by omega
     have hqn : ¬ (q : Int) < (q : Int):=by omega
     go_wp2_with fail;refine (PO.out _).mono ?_;rintro e w' ⟨rfl,hb'⟩;have Y3:=YW.out (YB.out Y2 hb') (show i * 4 + q <= (i + 1) * 4 by omega) HE.out;clear Y2 hb' c0 c1 c2 c3 k1 k2;go_wp2_with fail;go_roundw
     case rel=>exact ⟨i + 1,bl,by go_num,by omega,Y3,HO⟩
     case measure=>first | omega | (simp [intOf];omega) | simp [intOf]
  ·obtain rfl : i = ds.length:=by omega
   have hin : ¬ (ds.length : Int) < (ds.length : Int):=by omega
   have Y2 : Y bl 40 (fun t=>isPl ds t.1 t.2 = true) (hostT ds ls 0 0) wr:=by
    rw [hostT_start];refine YW.out Y1 (by omega) fun t ht=>⟨ht,Or.inl ?_⟩;unfold isPl at ht;simp only [Bool.and_eq_true,decide_eq_true_eq] at ht;omega
   clear Y1 YA YN hmk hi;have YP : Hid (∀ (i : Nat) (d : Dv) (tq : Int × Int),ds[i]? = some d -> d.kind = 1 -> peerF ls (i : Int) 0 = some tq -> ∃ b,bl tq = some b /\ ∀ (c cc : Nat) (W : World),c < 1024 -> (cc : Int) = d.addr * 1024 + (c : Int) -> Y bl 40 (fun t=>isPl ds t.1 t.2 = true) (hostT ds ls i c) W -> ((Instr.lookup 42 (.map (some (w.heap.size + 1))) (.agg #[.int .i64 tq.1,.int .i64 tq.2]) false).run Tryz.prog W = .ok (.slice (some ⟨b,0,none⟩) 16384 16384) W) /\ (∃ r,W.cell? ⟨b,cc,none⟩ = some (.int .i64 r)) /\ W.frozen? ⟨b,cc,none⟩ = false /\ Y bl 40 (fun t=>isPl ds t.1 t.2 = true) (hostT ds ls i (c + 1)) (W.setCell ⟨b,cc,none⟩ (.int .i64 0)) /\ (∀ {j : Nat} {cs : Array Value} {ty : TypeId},Bk W j cs ty -> cs.size = 2 -> Bk (W.setCell ⟨b,cc,none⟩ (.int .i64 0)) j cs ty) /\ ((Instr.lookup 42 (.map (some (w.heap.size + 1))) (.agg #[.int .i64 tq.1,.int .i64 tq.2]) false).run Tryz.prog (W.setCell ⟨b,cc,none⟩ (.int .i64 0)) = .ok (.slice (some ⟨b,0,none⟩) 16384 16384) (W.setCell ⟨b,cc,none⟩ (.int .i64 0)))):=fun i d tq hd hk hp=>by
    have ha:=(dev_right (netV_devsP hz.out d (List.mem_of_getElem? hd))).2.1;have hpl:=peer_isPl hz.out hp;obtain ⟨b,hb⟩ : ∃ b,bl tq = some b:=by
     rw [hY] at Y2;exact Y2.dom tq hpl
    refine ⟨b,hb,fun c cc W hc hcc h=>?_⟩;rw [hY] at h ⊢;have hr:=(h.row tq b hb).1;have hcl : cc < 16384:=by omega
    refine ⟨h.look hb,⟨_,hr.cell hcl⟩,hr.fz cc,h.put hb hcl 0 (hostT_step hd hk hp hc hcc),fun {j cs ty} hB hs=>?_,(h.put hb hcl 0 (hostT_step hd hk hp hc hcc)).look hb⟩;refine (Below.heap_setCell W ⟨b,cc,none⟩ _ j (fun e=>?_)).trans hB;have e : j = b:=e;subst e;obtain ⟨cs',h1,h2,_⟩:=hr;have:=h1.symm.trans hB;simp only [Option.some.injEq,Obj.cells.injEq] at this;rw [this.1] at h2;omega
   obtain ⟨c0,c1,c2,c3⟩:=YC.out Y2;go_wp2_with fail;go_loopw [8] (fun s wr=>∃ i : Nat,s = .int .i64 (i : Int) /\ i <= ds.length /\ Y bl 40 (fun t=>isPl ds t.1 t.2 = true) (hostT ds ls i 0) wr) (fun s _=>ds.length - (intOf s).toNat)
   case atStart=>exact ⟨0,rfl,by omega,Y2⟩
   case round =>
    clear Y2 c0 c1 c2 c3;obtain ⟨i,rfl,hi,Y3⟩:=hrel;obtain ⟨c0,c1,c2,c3⟩:=YC.out Y3;by_cases hlt : i < ds.length
    ·obtain ⟨d,hd⟩ : ∃ d,ds[i]? = some d:=⟨_,List.getElem?_eq_getElem hlt⟩;obtain ⟨b,o,rfl,hdc⟩:=YD.out i d hd;have i1 : (i : Int) < (ds.length : Int):=by omega
     have i0 : (0 : Int) <= (i : Int):=by omega
     have ha:=(dev_right (netV_devsP hz.out d (List.mem_of_getElem? hd))).2.1;have PE : Hid (∀ W,Below w.heap.size w W -> Calls Tryz.prog 35 #[.agg #[.slice (some ⟨b,o,none⟩) ds.length cap,.slice L ls.length cap'],.agg #[.int .i64 (i : Int),.int .i64 0]] W fun e w'=>e = .returned (.tuple #[placeV (peerF ls i 0),.bool (peerF ls i 0).isSome]) /\ Below W.heap.size W w'):=fun W hb=>rpeer_any (.slice (some ⟨b,o,none⟩) ds.length cap) L ls.length cap' ls i 0 W ((hL.out.below hb).mono hb.size);have Bw : Below w.heap.size w wr:=by
      rw [hY] at Y3;exact Y3.bel
     have hskip : ¬ (d.kind = 1 /\ (peerF ls (i : Int) 0).isSome = true) -> hostT ds ls i 0 = hostT ds ls (i + 1) 0:=fun h=>hostT_skip fun d' hd'=>by
      rw [hd] at hd';cases hd';exact h
     have PE:=PE.out wr Bw;cases hpe : peerF ls (i : Int) 0 with
     | none =>
       rw [hpe] at PE hskip;have HT:=Hid.of (hskip (fun h=>by cases h.2));clear hskip hd ha hpe;go_wp2_with fail;refine PE.mono ?_;rintro e w4 ⟨rfl,hb4⟩;have Y4:=YB.out (YB.out Y3 hb4) (Below.alN (Below.refl _ _) (.cells #[.int .i64 0,.int .i64 0] 27));rw [HT.out] at Y4;clear PE Y3 hb4 Bw c0 c1 c2 c3 hdc;go_wp2_with fail;go_roundw
       case rel=>exact ⟨i + 1,by go_num,by omega,Y4⟩
       case measure=>first | omega | (simp [intOf];omega) | simp [intOf]
     | some tq =>
       obtain ⟨t1,t2⟩:=tq;rw [hpe] at PE;by_cases hk1 : d.kind = 1
       ·have f1 : (d.kind == 1) = true:=by simpa using hk1
        obtain ⟨rb,hrb,HP⟩:=YP.out i d (t1,t2) hd hk1 hpe;have HP:=Hid.of HP;clear hskip hd hk1 hpe hrb;go_wp2_with fail;refine PE.mono ?_;rintro e w4 ⟨rfl,hb4⟩;have Y4:=YB.out (YB.out Y3 hb4) (Below.alN (Below.refl _ _) (.cells #[.int .i64 t1,.int .i64 t2] 27));have Z4:=bk_new w4 #[.int .i64 t1,.int .i64 t2] 27;clear PE Y3 hb4 Bw c0 c1 c2 c3;go_upto_region 18 with fail;generalize w4.alloc (.cells #[.int .i64 t1,.int .i64 t2] 27) = w5 at *;generalize w4.heap.size = z at *;obtain ⟨c0,c1,c2,c3⟩:=YC.out Y4;obtain ⟨k1,k2⟩:=hdc.out Y4;go_wp2_with fail;go_loopw [11] (fun s wr=>∃ c : Nat,s = .int .i64 (c : Int) /\ c <= 1024 /\ Y bl 40 (fun t=>isPl ds t.1 t.2 = true) (hostT ds ls i c) wr /\ Bk wr z #[.int .i64 t1,.int .i64 t2] 27) (fun s _=>1024 - (intOf s).toNat)
        case atStart=>exact ⟨0,rfl,by omega,Y4,Z4⟩
        case round =>
         clear Y4 Z4 c0 c1 c2 c3 k1 k2;obtain ⟨c,rfl,hc,Y5,Z5⟩:=hrel;by_cases hcl : c < 1024
         ·have x1 : (c : Int) < 1024:=by omega
          obtain ⟨cc,hcc⟩ : ∃ cc : Nat,(cc : Int) = d.addr * 1024 + (c : Int):=⟨(d.addr * 1024 + (c : Int)).toNat,by omega⟩;have wr1 : IntKind.i64.wrap (d.addr * 1024) = d.addr * 1024:=IntWalk.i64_in _ (by omega);have wr2 : IntKind.i64.wrap (d.addr * 1024 + (c : Int)) = (cc : Int):=by rw [hcc];exact IntWalk.i64_in _ (by omega)
          have cc0 : (0 : Int) <= (cc : Int):=by omega
          have cc1 : (cc : Int) < 16384:=by omega
          have Y5d:=YB.out Y5 (Below.refl _ _).drew;have Z5d:=Bk.keep (Below.refl wr.heap.size wr).drew Z5;obtain ⟨L1,⟨r,L2⟩,L3,Y6,Z6,L4⟩:=HP.out c cc _ hcl hcc Y5d;have Z7:=Z6 Z5d rfl;clear Z6 Y5 Z5 hcc;obtain ⟨c0,c1,c2,c3⟩:=YC.out Y5d;obtain ⟨k1,k2⟩:=hdc.out Y5d;obtain ⟨z0,z1⟩:=Z5d.two;have L2' : wr.cell? ⟨rb,cc,none⟩ = some (.int .i64 r):=L2;have L3' : wr.frozen? ⟨rb,cc,none⟩ = false:=L3;go_upto_region 22 with fail;refine wp_region_held_drew (S:=fun W'=>W'.cell? ⟨w.heap.size,0,none⟩ = some (.slice (some ⟨b,o,none⟩) ds.length cap) /\ W'.cell? ⟨w.heap.size + 1 + 1 + 1,0,none⟩ = some (.pointer (some ⟨w.heap.size + 1 + 1,0,none⟩)) /\ W'.cell? ⟨w.heap.size + 1 + 1,1,none⟩ = some (.map (some (w.heap.size + 1))) /\ W'.cell? ⟨b,o + i * 7 + 2,none⟩ = some (.int .i64 d.addr) /\ W'.cell? ⟨z,0,none⟩ = some (.int .i64 t1) /\ W'.cell? ⟨z,1,none⟩ = some (.int .i64 t2) /\ (Instr.lookup 42 (.map (some (w.heap.size + 1))) (.agg #[.int .i64 t1,.int .i64 t2]) false).run Tryz.prog W' = .ok (.slice (some ⟨rb,0,none⟩) 16384 16384) W') (by kernel_rfl) ⟨c0,c2,c3,k2,z0,z1,L1⟩ (fun hHeld=>?_);refine tk 0 ?_;try simp only [ly]
          refine tk 1 ?_;try simp only [ly]
          refine tk 2 ?_;try simp only [ly]
          refine tk 3 ?_;try simp only [ly]
          refine tk 4 ?_;try simp only [ly]
          refine tk 5 ?_;try simp only [ly]
          refine tk 6 ?_;try simp only [ly]
          refine tk 7 ?_;try simp only [ly]
          refine tk 8 ?_;try simp only [ly]
          refine tk 9 ?_;try simp only [ly]
          refine tk 10 ?_;try simp only [ly]
          refine tk 11 ?_;try simp only [ly]
          refine tk 12 ?_;try simp only [ly]
          refine tk 13 ?_;try simp only [ly]
          refine tk 14 ?_;try simp only [ly]
          refine tk 15 ?_;try simp only [ly]
          refine rd 16 (fun K hK=>?_);go_simp;clear hHeld;obtain ⟨c0',c1',c2',c3'⟩:=YC.out Y6;refine hK.out _ _ ⟨c0',c2',c3',(hdc.out Y6).2,Z7.two.1,Z7.two.2,L4⟩ (fun hHeld=>?_);clear hK K;refine wpAnyH_done (by kernel_rfl) ?_ _;have Y7 : Y bl 40 (fun t=>isPl ds t.1 t.2 = true) (hostT ds ls i (c + 1)) (wr.setCell ⟨rb,cc,none⟩ (.int .i64 0)).drew:=Y6;have Z8 : Bk (wr.setCell ⟨rb,cc,none⟩ (.int .i64 0)).drew z #[.int .i64 t1,.int .i64 t2] 27:=Z7;generalize (wr.setCell ⟨rb,cc,none⟩ (.int .i64 0)).drew = wq at *;clear Y6 Z7 Y5d Z5d L1 L2 L2' L3 L3' L4 c0 c1 c2 c3 c0' c1' c2' c3' k1 k2 z0 z1;go_wp2_with fail;go_roundw
          case rel=>exact ⟨c + 1,by go_num,by omega,Y7,Z8⟩
          case measure=>first | omega | (simp [intOf];omega) | simp [intOf]
         ·have hce : c = 1024:=by omega
          have x1 : ¬ (c : Int) < 1024:=by omega
          have Y6 : Y bl 40 (fun t=>isPl ds t.1 t.2 = true) (hostT ds ls (i + 1) 0) wr:=by
           rw [hce,hostT_row] at Y5;exact Y5
          clear Y5 Z5 hce;go_wp2_with fail;go_roundw
          case rel=>exact ⟨i + 1,by go_num,by omega,Y6⟩
          case measure=>first | omega | (simp [intOf];omega) | simp [intOf]
       ·have f1 : (d.kind == 1) = false:=by simpa using hk1
        have HT:=Hid.of (hskip (fun h=>hk1 h.1));clear hskip hd ha hpe hk1;go_wp2_with fail;refine PE.mono ?_;rintro e w4 ⟨rfl,hb4⟩;have Y4:=YB.out (YB.out Y3 hb4) (Below.alN (Below.refl _ _) (.cells #[.int .i64 t1,.int .i64 t2] 27));clear PE Y3 hb4 Bw c0 c1 c2 c3;go_upto_region 18 with fail;generalize w4.alloc (.cells #[.int .i64 t1,.int .i64 t2] 27) = w5 at *;obtain ⟨c0,c1,c2,c3⟩:=YC.out Y4;obtain ⟨k1,k2⟩:=hdc.out Y4;rw [HT.out] at Y4;clear HT;go_wp2_with fail;go_roundw
        case rel=>exact ⟨i + 1,by go_num,by omega,Y4⟩
        case measure=>first | omega | (simp [intOf];omega) | simp [intOf]
    ·obtain rfl : i = ds.length:=by omega
     have hin2 : ¬ (ds.length : Int) < (ds.length : Int):=by omega
     have KI0 : Hid (KInv ds ls (hostT ds ls ds.length 0) 0):=kinv_start hz.out;have Y4:=YB.out Y3 (Below.alN (Below.refl _ _) (.cells #[.int .i64 0] 3));have K4:=bk_new wr #[.int .i64 0] 3;clear YP YW hi;have XD : Hid (∀ {kb mb : Nat} {T : Tab} {k : Nat} {P : PutS} {W : World} {i : Nat} {d : Dv},Sx w.heap.size w w.heap.size (w.heap.size + 1 + 1 + 1) (w.heap.size + 1 + 1) (w.heap.size + 1) kb mb (.slice A ds.length cap) (.slice L ls.length cap') ds ls bl T (k : Int) P W -> KInv ds ls T k -> k < 1000000 -> ds[i]? = some d -> Calls Tryz.prog 38 #[.pointer (some ⟨w.heap.size + 1 + 1,0,none⟩),.agg #[.slice A ds.length cap,.slice L ls.length cap'],.int .i64 (i : Int),.int .i64 (k : Int),.func (.func 36) #[] #[.pointer (some ⟨w.heap.size,0,none⟩),.pointer (some ⟨w.heap.size + 1 + 1 + 1,0,none⟩),.pointer (some ⟨kb,0,none⟩),.pointer (some ⟨mb,0,none⟩)]] W fun e w'=>e = .returned (.tuple #[]) /\ Sx w.heap.size w w.heap.size (w.heap.size + 1 + 1 + 1) (w.heap.size + 1 + 1) (w.heap.size + 1) kb mb (.slice A ds.length cap) (.slice L ls.length cap') ds ls bl T (k : Int) (un P (devP d (i : Int) ls T (k : Int))) w'):=fun {kb mb T k P W i d} hx hki hk hd=>DH.out _ _ _ _ _ _ _ _ _ _ i d hx ⟨by omega,by omega⟩ hd (fun c hc hp hw=>kinv_open hz.out hki (isPl_of (q:=1) hd hp) hc hw);clear DH;go_wp2_with fail;go_loopw [12] (fun s wr=>∃ (k kb : Nat) (T : Tab),s = .pointer (some ⟨kb,0,none⟩) /\ Y bl 40 (fun t=>isPl ds t.1 t.2 = true) T wr /\ Bk wr kb #[.int .i64 (k : Int)] 3 /\ Hid (KInv ds ls T k)) kMeas
     case atStart=>exact ⟨0,_,_,rfl,Y4,K4,KI0⟩
     case round =>
      clear Y4 K4 KI0 Y3 c0 c1 c2 c3;obtain ⟨k,kb,T,rfl,Y5,K5,HK⟩:=hrel;have Y6:=YB.out Y5 (Below.alN (Below.refl _ _) (.cells #[.bool false] 4));have K6:=K5.alloc (.cells #[.bool false] 4);have M6:=bk_new wr #[.bool false] 4;have hk6 : k < 1000000:=by
       have:=HK.out.few;omega
      have hlo : w.heap.size <= wr.heap.size:=by
       rw [hY] at Y5;exact Y5.size
      obtain ⟨X,hX⟩ : ∃ X : PutS -> World -> Prop,X = fun P W=>Sx w.heap.size w w.heap.size (w.heap.size + 1 + 1 + 1) (w.heap.size + 1 + 1) (w.heap.size + 1) kb wr.heap.size (.slice A ds.length cap) (.slice L ls.length cap') ds ls bl T (k : Int) P W:=⟨_,rfl⟩;have X6 : X (devsP ds ls T (k : Int) 0) (wr.alloc (.cells #[.bool false] 4)):=by
       rw [devsP_start,hX];rw [hY] at Y6;exact Y6.toX K6 M6 hlo
      have XC : Hid (∀ {P : PutS} {W : World},X P W -> W.cell? ⟨w.heap.size,0,none⟩ = some (.slice A ds.length cap) /\ W.cell? ⟨w.heap.size,1,none⟩ = some (.slice L ls.length cap') /\ W.cell? ⟨w.heap.size + 1 + 1 + 1,0,none⟩ = some (.pointer (some ⟨w.heap.size + 1 + 1,0,none⟩)) /\ W.cell? ⟨kb,0,none⟩ = some (.int .i64 (k : Int)) /\ W.cell? ⟨wr.heap.size,0,none⟩ = some (.bool (moreP bl T P)) /\ W.cell? ⟨w.heap.size + 1 + 1,0,none⟩ = some (.int .i64 0) /\ W.frozen? ⟨w.heap.size + 1 + 1,0,none⟩ = false):=fun {P W} h=>by
       rw [hX] at h;exact ⟨h.n.two.1,h.n.two.2,h.s.one.1,h.k.one.1,h.m.one.1,h.S.two.1,h.S.fz 0⟩
      have XE : Hid (∀ {P : PutS} {W : World} {i : Nat} {d : Dv},X P W -> ds[i]? = some d -> Calls Tryz.prog 38 #[.pointer (some ⟨w.heap.size + 1 + 1,0,none⟩),.agg #[.slice A ds.length cap,.slice L ls.length cap'],.int .i64 (i : Int),.int .i64 (k : Int),.func (.func 36) #[] #[.pointer (some ⟨w.heap.size,0,none⟩),.pointer (some ⟨w.heap.size + 1 + 1 + 1,0,none⟩),.pointer (some ⟨kb,0,none⟩),.pointer (some ⟨wr.heap.size,0,none⟩)]] W fun e w'=>e = .returned (.tuple #[]) /\ X (un P (devP d (i : Int) ls T (k : Int))) w'):=fun {P W i d} h hd=>by
       rw [hX] at h ⊢;exact XD.out h HK.out hk6 hd
      have XT : Hid (∀ {W : World},X (devsP ds ls T (k : Int) ds.length) W -> moreP bl T (devsP ds ls T (k : Int) ds.length) = true -> Y bl 40 (fun t=>isPl ds t.1 t.2 = true) (tabP T (k : Int) (devsP ds ls T (k : Int) ds.length)) W /\ KInv ds ls (tabP T (k : Int) (devsP ds ls T (k : Int) ds.length)) (k + 1)):=fun {W} h hm=>by
       rw [hX] at h;rw [hY];exact ⟨h.toY (by omega),kinv_step hz.out HK.out HO.out hm⟩
      have XF : Hid (∀ {W : World},X (devsP ds ls T (k : Int) ds.length) W -> moreP bl T (devsP ds ls T (k : Int) ds.length) = false -> SpV ds ls (w.heap.size + 1 + 1) (w.heap.size + 1) bl T k (W.setCell ⟨w.heap.size + 1 + 1,0,none⟩ (.int .i64 (k : Int))) /\ Below w.heap.size w (W.setCell ⟨w.heap.size + 1 + 1,0,none⟩ (.int .i64 (k : Int))) /\ (W.setCell ⟨w.heap.size + 1 + 1,0,none⟩ (.int .i64 (k : Int))).cell? ⟨w.heap.size + 1 + 1 + 1,0,none⟩ = some (.pointer (some ⟨w.heap.size + 1 + 1,0,none⟩))):=fun {W} h hm=>by
       rw [hX] at h;have ht : tabP T (k : Int) (devsP ds ls T (k : Int) ds.length) = tabP T (k : Int) (devsP ds ls T (k : Int) ds.length):=rfl;have hrow : ∀ t b,bl t = some b -> RowI W b (T t):=fun t b hb=>by
        refine (h.row t b hb).1.congr fun c hc=>?_;unfold tabP;rw [if_neg];rintro ⟨h1,h2⟩;exact @of_decide_eq_false _ (Classical.propDecidable _) hm ⟨t,c,by rw [hb];rfl,hc,h1,h2⟩
       have h1 : ∀ j,j ≠ w.heap.size + 1 + 1 -> (W.setCell ⟨w.heap.size + 1 + 1,0,none⟩ (.int .i64 (k : Int))).heap[j]? = W.heap[j]?:=fun j e=>Below.heap_setCell W ⟨w.heap.size + 1 + 1,0,none⟩ _ j e;refine ⟨⟨?_,h.map.same (h1 _ (by omega)),fun t b hb=>(hrow t b hb).same (h1 _ (hrow t b hb |>.ne2 h.S)),fun t=>⟨fun ⟨b,hb⟩=>HO.out t b hb,h.dom t⟩,HK.out,kinv_end hz.out HK.out h.dom hm⟩,h.bel.trans ((Below.refl _ W).setCell (p:=⟨w.heap.size + 1 + 1,0,none⟩) (by show w.heap.size <= w.heap.size + 1 + 1;omega) _),?_⟩
       ·have:=Bk.setS (j:=0) h.S (.int .i64 (k : Int));simpa using this
       ·have : Bk (W.setCell ⟨w.heap.size + 1 + 1,0,none⟩ (.int .i64 (k : Int))) (w.heap.size + 1 + 1 + 1) #[.pointer (some ⟨w.heap.size + 1 + 1,0,none⟩)] 39:=(h1 _ (by omega)).trans h.s;exact this.one.1
      have kw : IntKind.i64.wrap ((k : Int) + 1) = ((k + 1 : Nat) : Int):=by
       rw [show ((k + 1 : Nat) : Int) = (k : Int) + 1 by omega];exact IntWalk.i64_in _ (by omega)
      have HMs : Hid (∀ (W' : World) (kb' : Nat) (T' : Tab),Bk W' kb' #[.int .i64 ((k + 1 : Nat) : Int)] 3 -> KInv ds ls T' (k + 1) -> kMeas (.pointer (some ⟨kb',0,none⟩)) W' < kMeas (.pointer (some ⟨kb,0,none⟩)) wr):=fun W' kb' T' hB hK=>by
       have:=hK.few;rw [kMeas_at hB,kMeas_at K5];omega
      clear hX Y5 Y6 K6 M6 HK XD;go_upto_region 27 with fail;generalize wr.alloc (.cells #[.bool false] 4) = w6 at *;obtain ⟨x0,x1,x2,x3,x4,x5,x6⟩:=XC.out X6;go_wp2_with fail;go_loopw [15] (fun s wq=>∃ i : Nat,s = .int .i64 (i : Int) /\ i <= ds.length /\ X (devsP ds ls T (k : Int) i) wq) (fun s _=>ds.length - (intOf s).toNat)
      case atStart=>exact ⟨0,rfl,by omega,X6⟩
      case round =>
       clear X6 x0 x1 x2 x3 x4 x5 x6;obtain ⟨i,rfl,hi,X7⟩:=hrel;obtain ⟨x0,x1,x2,x3,x4,x5,x6⟩:=XC.out X7;by_cases hlt : i < ds.length
       ·have i1 : (i : Int) < (ds.length : Int):=by omega
        obtain ⟨d,hd⟩ : ∃ d,ds[i]? = some d:=⟨_,List.getElem?_eq_getElem hlt⟩;have CD:=XE.out X7 hd;rw [devsP_step hd] at CD;clear hd;go_wp2_with fail;refine CD.mono ?_;rintro e w8 ⟨rfl,X8⟩;clear CD X7 x0 x1 x2 x3 x4 x5 x6;go_wp2_with fail;go_roundw
        case rel=>exact ⟨i + 1,by go_num,by omega,X8⟩
        case measure=>first | omega | (simp [intOf];omega) | simp [intOf]
       ·have hie : i = ds.length:=by omega
        have i1 : ¬ (i : Int) < (ds.length : Int):=by omega
        rw [hie] at X7 x4;cases hm : moreP bl T (devsP ds ls T (k : Int) ds.length) with
        | true =>
          rw [hm] at x4;obtain ⟨Y9,KI⟩:=XT.out X7 hm;have KI:=Hid.of KI;clear XT XF XE hm hie;have Y10:=YB.out Y9 (Below.alN (Below.refl _ _) (.cells #[.int .i64 ((k + 1 : Nat) : Int)] 3));have K10:=Hid.of (bk_new wr #[.int .i64 ((k + 1 : Nat) : Int)] 3);have HM:=Hid.of (HMs.out _ _ _ K10.out KI.out);have kw2 : IntKind.i64.wrap ((k : Int) + 1) = (k : Int) + 1:=IntWalk.i64_in _ (by omega);clear X7 Y9 kw HMs;generalize tabP T (k : Int) (devsP ds ls T (k : Int) ds.length) = T2 at *;go_wp2_with fail;go_roundw
          case rel=>exact ⟨k + 1,_,_,rfl,Y10,K10.out,KI⟩
          case measure=>exact HM.out
        | false =>
          rw [hm] at x4;obtain ⟨S9,B9,s9⟩:=XF.out X7 hm;clear XT XF XE hm hie;go_wp2_with fail;go_ret;exact ⟨_,rfl,⟨_,_,_,_,S9⟩,B9⟩
theorem adB_inP (n : Int) : (decide ((0 : Int) <= n) && decide (n <= 15)) = adB n:=by
 unfold adB;rw [show decide (n <= 15) = decide (n < 16) by rw [decide_eq_decide];omega]
theorem poB_inP (n : Int) : (decide ((0 : Int) <= n) && decide (n <= 7)) = poB n:=by
 unfold poB;rw [show decide (n <= 7) = decide (n < 8) by rw [decide_eq_decide];omega]
theorem right_P (p : Pk) (w : World) : Calls Tryz.prog 43 #[pkV p] w fun e w'=>e = .returned (.bool (pkOk p)) /\ Below w.heap.size w w':=by
 have D1:=Below.alN (Below.refl w.heap.size w) (.cells #[.int .i64 p.s,.int .i64 p.d,.int .i64 p.sp,.int .i64 p.dp] 29);have X1:=bk_new w #[.int .i64 p.s,.int .i64 p.d,.int .i64 p.sp,.int .i64 p.dp] 29;have IA : Hid (∀ (n : Int) W,Calls Tryz.prog 8 #[.int .i64 n,.int .i64 0,.int .i64 15] W fun e w'=>e = .returned (.bool (adB n)) /\ w' = W):=fun n W=>by
  have:=finR n 0 15 W;rw [adB_inP] at this;exact this
 have IP : Hid (∀ (n : Int) W,Calls Tryz.prog 8 #[.int .i64 n,.int .i64 0,.int .i64 7] W fun e w'=>e = .returned (.bool (poB n)) /\ w' = W):=fun n W=>by
  have:=finR n 0 7 W;rw [poB_inP] at this;exact this
 obtain ⟨x0,x1,x2,x3,_⟩:=X1.four;obtain ⟨s,d,sp,dp⟩:=p;unfold pkOk;dsimp only at *;have I0 : Hid (∀ W,Calls Tryz.prog 8 #[.int .i64 s,.int .i64 0,.int .i64 15] W fun e w'=>e = .returned (.bool (adB s)) /\ w' = W):=IA.out s;have I1 : Hid (∀ W,Calls Tryz.prog 8 #[.int .i64 d,.int .i64 0,.int .i64 15] W fun e w'=>e = .returned (.bool (adB d)) /\ w' = W):=IA.out d;have I2 : Hid (∀ W,Calls Tryz.prog 8 #[.int .i64 sp,.int .i64 0,.int .i64 7] W fun e w'=>e = .returned (.bool (poB sp)) /\ w' = W):=IP.out sp;have I3 : Hid (∀ W,Calls Tryz.prog 8 #[.int .i64 dp,.int .i64 0,.int .i64 7] W fun e w'=>e = .returned (.bool (poB dp)) /\ w' = W):=IP.out dp;clear IA IP X1;generalize adB s = y0 at *;generalize adB d = y1 at *;generalize poB sp = y2 at *;generalize poB dp = y3 at *;cases y0 <;> cases y1 <;> cases y2
 all_goals
  go_enter Tryz.func43,Tryz.ntmps43;go_wp2_with (first | (go_at_call_of 8 (Value.int .i64 s);refine (I0.out _).mono ?_;rintro e w' ⟨rfl,rfl⟩) | (go_at_call_of 8 (Value.int .i64 d);refine (I1.out _).mono ?_;rintro e w' ⟨rfl,rfl⟩) | (go_at_call_of 8 (Value.int .i64 sp);refine (I2.out _).mono ?_;rintro e w' ⟨rfl,rfl⟩) | (go_at_call_of 8 (Value.int .i64 dp);refine (I3.out _).mono ?_;rintro e w' ⟨rfl,rfl⟩));go_ret;exact ⟨by simp,D1⟩
section
variable {ds : List Dv} {ls : List Lk} {S M k : Nat} {bl : (Int × Int) -> Option Nat} {T : Tab} {W W' : World}
theorem SpV.grow (h : SpV ds ls S M bl T k W) (hb : Below W.heap.size W W') : SpV ds ls S M bl T k W' :=
 ⟨Bk.keep hb h.S,h.map.same (hb.block _ h.map.lt),fun t b e=>(h.row t b e).below hb,h.dom,h.inv,h.fix⟩
theorem SpV.look (h : SpV ds ls S M bl T k W) {t : Int × Int} (ht : prtOk t) : (Instr.lookup 42 (.map (some M)) (.agg #[.int .i64 t.1,.int .i64 t.2]) false).run Tryz.prog W = .ok (rowV (bl t)) W:=by
 have:=h.map.look1 uMapP (x:=t) ht;cases hb : bl t with
 | none =>
   rw [hb] at this;exact this
 | some b =>
   rw [hb] at this;exact this
def rndP (ds : List Dv) (T : Tab) (t : Int × Int) (p : Pk) : Int:=if isPl ds t.1 t.2 = true /\ pkOk p = true then T t (codeN p) else -1
theorem rround_none (h : SpV ds ls S M bl T k W) {t : Int × Int} (ht : prtOk t) (hb : bl t = none) (p : Pk) :
  Calls Tryz.prog 12 #[.pointer (some ⟨S,0,none⟩),.agg #[.int .i64 t.1,.int .i64 t.2],pkV p] W fun e w'=>e = .returned (.int .i64 (-1)) /\ Below W.heap.size W w':=by
 have D1:=Below.alN (Below.refl W.heap.size W) (.cells #[.int .i64 t.1,.int .i64 t.2] 27);have D2:=Below.alN D1 (.cells #[.int .i64 p.s,.int .i64 p.d,.int .i64 p.sp,.int .i64 p.dp] 29);have D2d:=D2.drew;have h2:=h.grow D2d;have hl:=h2.look ht;rw [hb] at hl;have c1:=h2.S.two.2;obtain ⟨x0,x1⟩:=((bk_new W #[.int .i64 t.1,.int .i64 t.2] 27).alloc (.cells #[.int .i64 p.s,.int .i64 p.d,.int .i64 p.sp,.int .i64 p.dp] 29)).two;clear h h2 hb;obtain ⟨t1,t2⟩:=t;obtain ⟨s,d,sp,dp⟩:=p;dsimp only [rowV] at *;go_enter Tryz.func12,Tryz.ntmps12;go_wp2_with fail;go_region;go_wp2_with fail;go_ret;exact ⟨rfl,D2d⟩
theorem rround_bad (h : SpV ds ls S M bl T k W) {t : Int × Int} (ht : prtOk t) {b : Nat} (hb : bl t = some b) (p : Pk) (hp : pkOk p = false) :
  Calls Tryz.prog 12 #[.pointer (some ⟨S,0,none⟩),.agg #[.int .i64 t.1,.int .i64 t.2],pkV p] W fun e w'=>e = .returned (.int .i64 (-1)) /\ Below W.heap.size W w':=by
 have D1:=Below.alN (Below.refl W.heap.size W) (.cells #[.int .i64 t.1,.int .i64 t.2] 27);have D2:=Below.alN D1 (.cells #[.int .i64 p.s,.int .i64 p.d,.int .i64 p.sp,.int .i64 p.dp] 29);have D2d:=D2.drew;have h2:=h.grow D2d;have hl:=h2.look ht;rw [hb] at hl;have c1:=h2.S.two.2;obtain ⟨x0,x1⟩:=((bk_new W #[.int .i64 t.1,.int .i64 t.2] 27).alloc (.cells #[.int .i64 p.s,.int .i64 p.d,.int .i64 p.sp,.int .i64 p.dp] 29)).two;obtain ⟨y0,y1,y2,y3,_⟩:=(bk_new' (W.alloc (.cells #[.int .i64 t.1,.int .i64 t.2] 27)) #[.int .i64 p.s,.int .i64 p.d,.int .i64 p.sp,.int .i64 p.dp] 29 (W.heap.size + 1) (by simp)).four;have RI : Hid (∀ W' : World,Calls Tryz.prog 43 #[pkV p] W' fun e w'=>e = .returned (.bool false) /\ Below W'.heap.size W' w'):=fun W'=>by
  have:=right_P p W';rw [hp] at this;exact this
 clear h h2 hb hp;obtain ⟨t1,t2⟩:=t;obtain ⟨s,d,sp,dp⟩:=p;dsimp only [rowV] at *;go_enter Tryz.func12,Tryz.ntmps12;go_wp2_with fail;go_region;go_wp2_with fail;refine (RI.out _).mono ?_;rintro e w3 ⟨rfl,hb3⟩;have D3:=chain hb3 D2d;go_wp2_with fail;go_ret;exact ⟨rfl,D3⟩
theorem rround_in (h : SpV ds ls S M bl T k W) {t : Int × Int} (ht : prtOk t) {b : Nat} (hb : bl t = some b) (p : Pk) (hp : pkOk p = true) :
  Calls Tryz.prog 12 #[.pointer (some ⟨S,0,none⟩),.agg #[.int .i64 t.1,.int .i64 t.2],pkV p] W fun e w'=>e = .returned (.int .i64 (T t (codeN p))) /\ Below W.heap.size W w':=by
 have D1:=Below.alN (Below.refl W.heap.size W) (.cells #[.int .i64 t.1,.int .i64 t.2] 27);have D2:=Below.alN D1 (.cells #[.int .i64 p.s,.int .i64 p.d,.int .i64 p.sp,.int .i64 p.dp] 29);have D2d:=D2.drew;have h2:=h.grow D2d;have hl:=h2.look ht;rw [hb] at hl;have c1:=h2.S.two.2;obtain ⟨x0,x1⟩:=((bk_new W #[.int .i64 t.1,.int .i64 t.2] 27).alloc (.cells #[.int .i64 p.s,.int .i64 p.d,.int .i64 p.sp,.int .i64 p.dp] 29)).two;have Y:=(bk_new' (W.alloc (.cells #[.int .i64 t.1,.int .i64 t.2] 27)) #[.int .i64 p.s,.int .i64 p.d,.int .i64 p.sp,.int .i64 p.dp] 29 (W.heap.size + 1) (by simp));obtain ⟨y0,y1,y2,y3,_⟩:=Y.four;have RI : Hid (∀ W' : World,Calls Tryz.prog 43 #[pkV p] W' fun e w'=>e = .returned (.bool true) /\ Below W'.heap.size W' w'):=fun W'=>by
  have:=right_P p W';rw [hp] at this;exact this
 have RC : Hid (∀ W' : World,Calls Tryz.prog 37 #[pkV p] W' fun e w'=>e = .returned (.int .i64 (codeN p : Int)) /\ Below W'.heap.size W' w'):=fun W'=>rcode_any p W' hp;have hcl:=codeN_lt hp;have RB:=h.row t b hb;have hcell : Hid (∀ W',Below W.heap.size W W' -> W'.cell? ⟨b,codeN p,none⟩ = some (.int .i64 (T t (codeN p)))):=fun W' hW=>(RB.below hW).cell hcl;clear h h2 hb hp RB;generalize codeN p = c at *;obtain ⟨t1,t2⟩:=t;obtain ⟨s,d,sp,dp⟩:=p;dsimp only [rowV] at *;generalize T (t1,t2) c = r at *;have u1 : decide ((c : Int) < 0) = false:=by simp
 have u2 : decide ((16384 : Int) <= (c : Int)) = false:=by simp;omega
 have u3 : (0 : Int) <= (c : Int):=by omega
 have u4 : (c : Int) < 16384:=by omega
 go_enter Tryz.func12,Tryz.ntmps12;go_wp2_with fail;go_region;go_wp2_with fail;refine (RI.out _).mono ?_;rintro e w3 ⟨rfl,hb3⟩;have D3:=chain hb3 D2d;obtain ⟨y0,y1,y2,y3,_⟩:=(Bk.keep hb3 Y.drew).four;clear hl c1 x0 x1;go_wp2_with fail;refine (RC.out _).mono ?_;rintro e w4 ⟨rfl,hb4⟩;have D4:=chain hb4 D3;have z0:=hcell.out _ D4;clear y0 y1 y2 y3 Y hcell hb3 hb4;go_wp2_with fail;go_ret;exact ⟨rfl,D4⟩
theorem rround_any (h : SpV ds ls S M bl T k W) {t : Int × Int} (ht : prtOk t) (p : Pk) :
  Calls Tryz.prog 12 #[.pointer (some ⟨S,0,none⟩),.agg #[.int .i64 t.1,.int .i64 t.2],pkV p] W fun e w'=>e = .returned (.int .i64 (rndP ds T t p)) /\ Below W.heap.size W w':=by
 unfold rndP;cases hb : bl t with
 | none =>
   rw [if_neg (fun h1=>by
    obtain ⟨b,e⟩:=(h.dom t).2 h1.1;rw [hb] at e;cases e)]
   exact rround_none h ht hb p
 | some b =>
   have hi:=(h.dom t).1 ⟨b,hb⟩;cases hp : pkOk p
   ·rw [if_neg (fun h1=>by cases h1.2)];exact rround_bad h ht hb p hp
   ·rw [if_pos ⟨hi,rfl⟩];exact rround_in h ht hb p hp
end
def cntG (g : Nat -> Int) : Nat -> Nat
 | 0=>0
 | c + 1=>cntG g c + if 0 <= g c then 1 else 0
theorem cntG_le (g : Nat -> Int) : ∀ c,cntG g c <= c
 | 0=>Nat.le_refl _
 | c + 1=>by
   have:=cntG_le g c;unfold cntG
   split <;> omega
section
variable {ds : List Dv} {ls : List Lk} {S M k : Nat} {bl : (Int × Int) -> Option Nat} {T : Tab} {W W' : World}
def cntP (ds : List Dv) (T : Tab) (t : Int × Int) : Nat:=if isPl ds t.1 t.2 = true then cntG (T t) 16384 else 0
theorem scount_none (h : SpV ds ls S M bl T k W) {t : Int × Int} (ht : prtOk t) (hb : bl t = none) :
  Calls Tryz.prog 16 #[.pointer (some ⟨S,0,none⟩),.agg #[.int .i64 t.1,.int .i64 t.2]] W fun e w'=>e = .returned (.int .i64 0) /\ Below W.heap.size W w':=by
 have D1:=Below.alN (Below.refl W.heap.size W) (.cells #[.int .i64 t.1,.int .i64 t.2] 27);have D2:=D1.drew;have h2:=h.grow D2;have hl:=h2.look ht;rw [hb] at hl;have c1:=h2.S.two.2;obtain ⟨x0,x1⟩:=(bk_new W #[.int .i64 t.1,.int .i64 t.2] 27).two;clear h h2 hb;obtain ⟨t1,t2⟩:=t;dsimp only [rowV] at *;go_enter Tryz.func16,Tryz.ntmps16;go_wp2_with fail;go_region;go_wp2_with fail;go_loopw [5,15] (fun s i wr=>s = .int .i64 0 /\ i = .int .i64 0 /\ Below W.heap.size W wr) (fun _ _ _=>0)
 case atStart=>exact ⟨rfl,rfl,D2⟩
 case round =>
  clear c1 hl x0 x1 D1 D2;obtain ⟨rfl,rfl,D3⟩:=hrel;go_wp2_with fail;go_ret;exact ⟨rfl,D3⟩
theorem scount_in (h : SpV ds ls S M bl T k W) {t : Int × Int} (ht : prtOk t) {b : Nat} (hb : bl t = some b) :
  Calls Tryz.prog 16 #[.pointer (some ⟨S,0,none⟩),.agg #[.int .i64 t.1,.int .i64 t.2]] W fun e w'=>e = .returned (.int .i64 (cntG (T t) 16384 : Nat)) /\ Below W.heap.size W w':=by
 have D1:=Below.alN (Below.refl W.heap.size W) (.cells #[.int .i64 t.1,.int .i64 t.2] 27);have D2:=D1.drew;have h2:=h.grow D2;have hl:=h2.look ht;rw [hb] at hl;have c1:=h2.S.two.2;obtain ⟨x0,x1⟩:=(bk_new W #[.int .i64 t.1,.int .i64 t.2] 27).two;have RB:=h.row t b hb;have hcell : Hid (∀ (c : Nat) W',c < 16384 -> Below W.heap.size W W' -> W'.cell? ⟨b,c,none⟩ = some (.int .i64 (T t c))):=fun c W' hc hW=>(RB.below hW).cell hc;clear h h2 hb RB;generalize T t = g at *;obtain ⟨t1,t2⟩:=t;dsimp only [rowV] at *;go_enter Tryz.func16,Tryz.ntmps16;go_wp2_with fail;go_region;go_wp2_with fail;go_loopw [5,15] (fun s i wr=>∃ c : Nat,s = .int .i64 (cntG g c : Nat) /\ i = .int .i64 (c : Int) /\ c <= 16384 /\ Below W.heap.size W wr) (fun _ i _=>16384 - (intOf i).toNat)
 case atStart=>exact ⟨0,rfl,rfl,by omega,D2⟩
 case round =>
  clear c1 hl x0 x1 D1 D2;obtain ⟨c,rfl,rfl,hc,D3⟩:=hrel;by_cases hlt : c < 16384
  ·have e1 : (c : Int) < 16384:=by omega
   have e0 : (0 : Int) <= (c : Int):=by omega
   have hc1:=hcell.out c _ hlt D3;have hle:=cntG_le g c;by_cases hg : 0 <= g c
   ·have hs : cntG g (c + 1) = cntG g c + 1:=by
     rw [show cntG g (c + 1) = cntG g c + if 0 <= g c then 1 else 0 from rfl,if_pos hg]
    have f1 : decide (0 <= g c) = true:=by simpa using hg
    generalize cntG g c = n at *;generalize g c = r at *;go_wp2_with fail;go_roundw
    case rel=>exact ⟨c + 1,by rw [hs];go_num,by go_num,by omega,D3⟩
    case measure=>first | omega | (simp [intOf];omega) | simp [intOf]
   ·have hs : cntG g (c + 1) = cntG g c:=by
     rw [show cntG g (c + 1) = cntG g c + if 0 <= g c then 1 else 0 from rfl,if_neg hg];rfl
    have f1 : decide (0 <= g c) = false:=by simpa using hg
    generalize cntG g c = n at *;generalize g c = r at *;go_wp2_with fail;go_roundw
    case rel=>exact ⟨c + 1,by rw [hs],by go_num,by omega,D3⟩
    case measure=>first | omega | (simp [intOf];omega) | simp [intOf]
  ·obtain rfl : c = 16384:=by omega
   go_wp2_with fail;go_ret;exact ⟨rfl,D3⟩
theorem scount_any (h : SpV ds ls S M bl T k W) {t : Int × Int} (ht : prtOk t) :
  Calls Tryz.prog 16 #[.pointer (some ⟨S,0,none⟩),.agg #[.int .i64 t.1,.int .i64 t.2]] W fun e w'=>e = .returned (.int .i64 (cntP ds T t : Nat)) /\ Below W.heap.size W w':=by
 unfold cntP;cases hb : bl t with
 | none =>
   rw [if_neg (fun h1=>by
    obtain ⟨b,e⟩:=(h.dom t).2 h1;rw [hb] at e;cases e)]
   exact scount_none h ht hb
 | some b =>
   rw [if_pos ((h.dom t).1 ⟨b,hb⟩)];exact scount_in h ht hb
end
def updE (e : Env) (i k c : Nat) : Env:=fun v=>if i <= v /\ v < i + k then c.testBit (i + k - 1 - v) else e v
def cntB (f : Nat -> Bool) : Nat -> Nat
 | 0=>0
 | c + 1=>cntB f c + if f c = true then 1 else 0
theorem cntB_congr {f g : Nat -> Bool} : ∀ n,(∀ c,c < n -> f c = g c) -> cntB f n = cntB g n
 | 0,_=>rfl
 | n + 1,h=>by
   unfold cntB;rw [cntB_congr n (fun c hc=>h c (by omega)),h n (by omega)]
theorem cntB_add (f : Nat -> Bool) (a : Nat) : ∀ b,cntB f (a + b) = cntB f a + cntB (fun c=>f (a + c)) b
 | 0=>rfl
 | b + 1=>by
   show cntB f (a + b) + _ = cntB f a + (cntB (fun c=>f (a + c)) b + _);rw [cntB_add f a b,Nat.add_assoc];rfl
theorem T_cnt (g : Env -> Bool) : ∀ (k i : Nat) (e : Env),T k i g e = cntB (fun c=>g (updE e i k c)) (2 ^ k)
 | 0,i,e=>by
   have : updE e i 0 0 = e:=by
    funext v
    unfold updE;rw [if_neg (by omega)]
   show (if g e = true then 1 else 0) = 0 + if g (updE e i 0 0) = true then 1 else 0
   rw [this,Nat.zero_add]
 | k + 1,i,e=>by
   rw [T,T_cnt g k (i + 1) (setE e i false),T_cnt g k (i + 1) (setE e i true),Nat.pow_succ,Nat.mul_two,cntB_add]
   congr 1
   ·refine cntB_congr _ fun c hc=>congrArg g (funext fun v=>?_);unfold updE setE;by_cases h : i + 1 <= v /\ v < i + 1 + k
    ·rw [if_pos h,if_pos (by omega),show i + (k + 1) - 1 - v = i + 1 + k - 1 - v by omega]
    ·rw [if_neg h];by_cases e : v = i
     ·subst e;rw [if_pos rfl,if_pos (by omega),show v + (k + 1) - 1 - v = k by omega,Nat.testBit_lt_two_pow hc]
     ·rw [if_neg e,if_neg (by omega)]
   ·refine cntB_congr _ fun c hc=>congrArg g (funext fun v=>?_);unfold updE setE;by_cases h : i + 1 <= v /\ v < i + 1 + k
    ·rw [if_pos h,if_pos (by omega),show i + (k + 1) - 1 - v = i + 1 + k - 1 - v by omega,Nat.testBit_two_pow_add_gt (by omega)]
    ·rw [if_neg h];by_cases e : v = i
     ·subst e;rw [if_pos rfl,if_pos (by omega),show v + (k + 1) - 1 - v = k by omega,Nat.testBit_two_pow_add_eq,Nat.testBit_lt_two_pow hc];rfl
     ·rw [if_neg e,if_neg (by omega)]
theorem cntE_cnt {φ : Env -> Bool} (h : L14 φ) : cntE φ = cntB (fun c=>φ (envOf 14 c)) 16384:=by
 unfold cntE;rw [T_cnt];refine cntB_congr _ fun c _=>h _ _ fun v hv=>?_;unfold updE envOf;rw [if_pos (by omega)]
theorem cntG_cnt (g : Nat -> Int) : ∀ n,cntG g n = cntB (fun c=>decide (0 <= g c)) n
 | 0=>rfl
 | n + 1=>by
   unfold cntG cntB;rw [cntG_cnt g n];simp only [decide_eq_true_eq]
theorem cnt_eq {φ : Env -> Bool} (h : L14 φ) {g : Nat -> Int} (he : ∀ c,c < 16384 -> (0 <= g c ↔ φ (envOf 14 c) = true)) : cntE φ = cntG g 16384:=by
 rw [cntE_cnt h,cntG_cnt];refine cntB_congr _ fun c hc=>?_;rw [Bool.eq_iff_iff,decide_eq_true_eq];exact (he c hc).symm
def bestG (g : Nat -> Int) (φ : Nat -> Bool) : Nat -> Option Nat
 | 0=>none
 | c + 1=>match bestG g φ c with
   | none=>if 0 <= g c /\ φ c = true then some c else none
   | some x=>if (0 <= g c /\ φ c = true) /\ g c < g x then some c else some x
theorem bestG_spec (g : Nat -> Int) (φ : Nat -> Bool) : ∀ c,match bestG g φ c with
  | none=>∀ x,x < c -> ¬ (0 <= g x /\ φ x = true)
  | some x=>x < c /\ (0 <= g x /\ φ x = true) /\ ∀ y,y < c -> 0 <= g y /\ φ y = true -> g x < g y ∨ (g x = g y /\ x <= y)
 | 0=>fun x hx=>by omega
 | c + 1=>by
   have ih:=bestG_spec g φ c;show match (match bestG g φ c with
    | none=>if 0 <= g c /\ φ c = true then some c else none
    | some x=>if (0 <= g c /\ φ c = true) /\ g c < g x then some c else some x) with
    | none=>∀ x,x < c + 1 -> ¬ (0 <= g x /\ φ x = true)
    | some x=>x < c + 1 /\ (0 <= g x /\ φ x = true) /\ ∀ y,y < c + 1 -> 0 <= g y /\ φ y = true -> g x < g y ∨ (g x = g y /\ x <= y)
   cases hbx : bestG g φ c with
   | none =>
     rw [hbx] at ih;dsimp only at ih ⊢;by_cases hc : 0 <= g c /\ φ c = true
     ·rw [if_pos hc];refine ⟨by omega,hc,fun y hy h=>?_⟩;by_cases e : y = c
      ·subst e;exact Or.inr ⟨rfl,Nat.le_refl _⟩
      ·exact absurd h (ih y (by omega))
     ·rw [if_neg hc];intro y hy h;by_cases e : y = c
      ·subst e;exact hc h
      ·exact ih y (by omega) h
   | some x =>
     rw [hbx] at ih;dsimp only at ih ⊢;obtain ⟨i1,i2,i3⟩:=ih;by_cases hc : (0 <= g c /\ φ c = true) /\ g c < g x
     ·rw [if_pos hc];refine ⟨by omega,hc.1,fun y hy h=>?_⟩;by_cases e : y = c
      ·subst e;exact Or.inr ⟨rfl,Nat.le_refl _⟩
      ·have:=i3 y (by omega) h;have:=hc.2;omega
     ·rw [if_neg hc];refine ⟨by omega,i2,fun y hy h=>?_⟩;by_cases e : y = c
      ·subst e;have : ¬ g y < g x:=fun hh=>hc ⟨h,hh⟩;omega
      ·exact i3 y (by omega) h
def bestV : Option Nat -> Int
 | none=>-1
 | some x=>(x : Int)
def phiC (sa sb sc sd : Nat) (c : Nat) : Bool:=inB sa sb sc sd (pkN c).s (pkN c).d (pkN c).sp (pkN c).dp
def firstV : Option Nat -> Value
 | none=>.tuple #[pkV ⟨0,0,0,0⟩,.bool false]
 | some x=>.tuple #[pkV (pkN x),.bool true]
section
variable {ds : List Dv} {ls : List Lk} {S M k : Nat} {bl : (Int × Int) -> Option Nat} {T : Tab} {W W' : World}
theorem sfirst_none (h : SpV ds ls S M bl T k W) {t : Int × Int} (ht : prtOk t) (hb : bl t = none) (sa sb sc sd : Nat) :
  Calls Tryz.prog 14 #[.pointer (some ⟨S,0,none⟩),.agg #[.int .i64 t.1,.int .i64 t.2],mt sa sb sc sd] W fun e w'=>e = .returned (firstV none) /\ Below W.heap.size W w':=by
 have D1:=Below.alN (Below.refl W.heap.size W) (.cells #[.int .i64 t.1,.int .i64 t.2] 27);have D2:=Below.alN D1 (.cells #[.int .u16 (sa : Int),.int .u16 (sb : Int),.int .u8 (sc : Int),.int .u8 (sd : Int)] 32);have D3:=(Below.alN D2 (.cells #[.int .i64 0,.int .i64 0,.int .i64 0,.int .i64 0] 29)).drew;have X1:=((bk_new W #[.int .i64 t.1,.int .i64 t.2] 27).alloc (.cells #[.int .u16 (sa : Int),.int .u16 (sb : Int),.int .u8 (sc : Int),.int .u8 (sd : Int)] 32)).alloc (.cells #[.int .i64 0,.int .i64 0,.int .i64 0,.int .i64 0] 29);have X2:=(bk_new' (W.alloc (.cells #[.int .i64 t.1,.int .i64 t.2] 27)) #[.int .u16 (sa : Int),.int .u16 (sb : Int),.int .u8 (sc : Int),.int .u8 (sd : Int)] 32 (W.heap.size + 1) (by simp)).alloc (.cells #[.int .i64 0,.int .i64 0,.int .i64 0,.int .i64 0] 29);have X3:=bk_new' ((W.alloc (.cells #[.int .i64 t.1,.int .i64 t.2] 27)).alloc (.cells #[.int .u16 (sa : Int),.int .u16 (sb : Int),.int .u8 (sc : Int),.int .u8 (sd : Int)] 32)) #[.int .i64 0,.int .i64 0,.int .i64 0,.int .i64 0] 29 (W.heap.size + 1 + 1) (by simp);have h2:=h.grow D3;have hl:=h2.look ht;rw [hb] at hl;have c1:=h2.S.two.2;obtain ⟨x0,x1⟩:=X1.two;obtain ⟨q0,q1,q2,q3,r0,r1,r2,r3⟩:=X3.drew.four;clear h h2 hb X1 X2 D1 D2 X3;obtain ⟨t1,t2⟩:=t;dsimp only [rowV] at *;go_enter Tryz.func14,Tryz.ntmps14;go_wp2_with fail;go_region;go_wp2_with fail;go_loopw [8,10] (fun s i wr=>s = .int .i64 (-1) /\ i = .int .i64 0 /\ Below W.heap.size W wr /\ Bk wr (W.heap.size + 1 + 1) #[.int .i64 0,.int .i64 0,.int .i64 0,.int .i64 0] 29) (fun _ _ _=>0)
 case atStart=>exact ⟨rfl,rfl,D3,bk_new' _ _ _ _ (by simp)⟩
 case round =>
  clear c1 hl x0 x1 q0 q1 q2 q3 r0 r1 r2 r3 D3;obtain ⟨rfl,rfl,D4,B4⟩:=hrel;obtain ⟨q0,q1,q2,q3,r0,r1,r2,r3⟩:=B4.four;go_wp2_with fail;refine bodyPost_ret (v:=.tuple #[pkV ⟨0,0,0,0⟩,.bool false]) (by simp [results,Tryz.results14,go_sem,q0,q1,q2,q3]) rfl ⟨rfl,?_⟩;exact (((D4.setCell (by simp;omega) _).setCell (by simp;omega) _).setCell (by simp;omega) _).setCell (by simp;omega) _
theorem sfirst_in (h : SpV ds ls S M bl T k W) {t : Int × Int} (ht : prtOk t) {b : Nat} (hb : bl t = some b) (sa sb sc sd : Nat) (ha : sa < 65536) (hb' : sb < 65536) (hc' : sc < 256) (hd' : sd < 256) :
  Calls Tryz.prog 14 #[.pointer (some ⟨S,0,none⟩),.agg #[.int .i64 t.1,.int .i64 t.2],mt sa sb sc sd] W fun e w'=>e = .returned (firstV (bestG (T t) (phiC sa sb sc sd) 16384)) /\ Below W.heap.size W w':=by
 have D1:=Below.alN (Below.refl W.heap.size W) (.cells #[.int .i64 t.1,.int .i64 t.2] 27);have D2:=Below.alN D1 (.cells #[.int .u16 (sa : Int),.int .u16 (sb : Int),.int .u8 (sc : Int),.int .u8 (sd : Int)] 32);have D3:=(Below.alN D2 (.cells #[.int .i64 0,.int .i64 0,.int .i64 0,.int .i64 0] 29)).drew;have X1:=((bk_new W #[.int .i64 t.1,.int .i64 t.2] 27).alloc (.cells #[.int .u16 (sa : Int),.int .u16 (sb : Int),.int .u8 (sc : Int),.int .u8 (sd : Int)] 32)).alloc (.cells #[.int .i64 0,.int .i64 0,.int .i64 0,.int .i64 0] 29);have X2:=(bk_new' (W.alloc (.cells #[.int .i64 t.1,.int .i64 t.2] 27)) #[.int .u16 (sa : Int),.int .u16 (sb : Int),.int .u8 (sc : Int),.int .u8 (sd : Int)] 32 (W.heap.size + 1) (by simp)).alloc (.cells #[.int .i64 0,.int .i64 0,.int .i64 0,.int .i64 0] 29);have X3:=bk_new' ((W.alloc (.cells #[.int .i64 t.1,.int .i64 t.2] 27)).alloc (.cells #[.int .u16 (sa : Int),.int .u16 (sb : Int),.int .u8 (sc : Int),.int .u8 (sd : Int)] 32)) #[.int .i64 0,.int .i64 0,.int .i64 0,.int .i64 0] 29 (W.heap.size + 1 + 1) (by simp);have h2:=h.grow D3;have hl:=h2.look ht;rw [hb] at hl;have c1:=h2.S.two.2;obtain ⟨x0,x1⟩:=X1.two;have RB:=h.row t b hb;generalize T t = g at *;obtain ⟨φ,hφ⟩ : ∃ φ,φ = phiC sa sb sc sd:=⟨_,rfl⟩;rw [<- hφ];obtain ⟨V,hV⟩ : ∃ V : World -> Prop,V = fun W'=>Below W.heap.size W W' /\ Bk W' (W.heap.size + 1) #[.int .u16 (sa : Int),.int .u16 (sb : Int),.int .u8 (sc : Int),.int .u8 (sd : Int)] 32 /\ Bk W' (W.heap.size + 1 + 1) #[.int .i64 0,.int .i64 0,.int .i64 0,.int .i64 0] 29:=⟨_,rfl⟩;have VK : Hid (∀ {W' W'' : World},V W' -> Below W'.heap.size W' W'' -> V W''):=fun {W' W''} hv hbl=>by
  rw [hV] at hv ⊢;exact ⟨chain hbl hv.1,Bk.keep hbl hv.2.1,Bk.keep hbl hv.2.2⟩
 have V3 : V (((W.alloc (.cells #[.int .i64 t.1,.int .i64 t.2] 27)).alloc (.cells #[.int .u16 (sa : Int),.int .u16 (sb : Int),.int .u8 (sc : Int),.int .u8 (sd : Int)] 32)).alloc (.cells #[.int .i64 0,.int .i64 0,.int .i64 0,.int .i64 0] 29)).drew:=by
  rw [hV];exact ⟨D3,X2.drew,X3.drew⟩
 have CC : Hid (∀ {W' : World} (c : Nat),V W' -> c < 16384 -> W'.cell? ⟨b,c,none⟩ = some (.int .i64 (g c))):=fun {W'} c hv hc=>by
  rw [hV] at hv;exact (RB.below hv.1).cell hc
 have MC : Hid (∀ {W' : World},V W' -> W'.cell? ⟨W.heap.size + 1,0,none⟩ = some (.int .u16 (sa : Int)) /\ W'.cell? ⟨W.heap.size + 1,1,none⟩ = some (.int .u16 (sb : Int)) /\ W'.cell? ⟨W.heap.size + 1,2,none⟩ = some (.int .u8 (sc : Int)) /\ W'.cell? ⟨W.heap.size + 1,3,none⟩ = some (.int .u8 (sd : Int))):=fun {W'} hv=>by
  rw [hV] at hv;obtain ⟨p0,p1,p2,p3,_⟩:=hv.2.1.four;exact ⟨p0,p1,p2,p3⟩
 have OUT : Hid (∀ {W' : World},V W' -> Below W.heap.size W W' /\ Bk W' (W.heap.size + 1 + 1) #[.int .i64 0,.int .i64 0,.int .i64 0,.int .i64 0] 29):=fun {W'} hv=>by
  rw [hV] at hv;exact ⟨hv.1,hv.2.2⟩
 have PKC : Hid (∀ {W' : World} (c : Nat),V W' -> c < 16384 -> Calls Tryz.prog 21 #[.int .i64 (c : Int)] W' fun e w'=>e = .returned (pkV (pkN c)) /\ V w'):=fun {W'} c hv hc=>(rpacket_any c W' hc).mono fun e w' ⟨h1,h2⟩=>⟨h1,VK.out hv h2⟩;have HSC : Hid (∀ {W' : World} (c : Nat),V W' -> Calls Tryz.prog 48 #[mt sa sb sc sd,pkV (pkN c)] W' fun e w'=>e = .returned (.bool (φ c)) /\ V w'):=fun {W'} c hv=>by
  rw [hφ];exact (rHas_in sa sb sc sd (pkN c).s (pkN c).d (pkN c).sp (pkN c).dp W' ha hb' hc' hd').mono fun e w' ⟨h1,h2⟩=>⟨h1,VK.out hv h2⟩
 have SP:=fun c=>bestG_spec g φ c;have SP : Hid (∀ c,match bestG g φ c with | none=>True | some x=>x < c):=fun c=>by
  have:=SP c;cases hh : bestG g φ c with
  | none=>trivial
  | some x =>
    rw [hh] at this;exact this.1
 have VDH : Hid (∀ {W' : World},V W' -> V W'.drew):=fun {W'} hv=>by
  rw [hV] at hv ⊢;exact ⟨hv.1.drew,hv.2.1.drew,hv.2.2.drew⟩
 clear hV hφ VK RB h h2 hb X1 X2 X3 D1 D2 D3 ha hb' hc' hd';obtain ⟨t1,t2⟩:=t;dsimp only [rowV] at *;go_enter Tryz.func14,Tryz.ntmps14;go_wp2_with fail;go_region;go_wp2_with fail;go_loopw [8,10] (fun s i wr=>∃ c : Nat,s = .int .i64 (bestV (bestG g φ c)) /\ i = .int .i64 (c : Int) /\ c <= 16384 /\ V wr) (fun _ i _=>16384 - (intOf i).toNat)
 case atStart=>exact ⟨0,rfl,rfl,by omega,V3⟩
 case round =>
  clear c1 hl x0 x1 V3;obtain ⟨c,rfl,rfl,hc,V4⟩:=hrel;by_cases hlt : c < 16384
  ·have e1 : (c : Int) < 16384:=by omega
   have e0 : (0 : Int) <= (c : Int):=by omega
   have k1 : decide ((c : Int) < 0) = false:=by simp
   have k2 : decide ((16384 : Int) <= (c : Int)) = false:=by simp;omega
   have bstep : bestG g φ (c + 1) = match bestG g φ c with
    | none=>if 0 <= g c /\ φ c = true then some c else none
    | some x=>if (0 <= g c /\ φ c = true) /\ g c < g x then some c else some x:=rfl
   have k0:=CC.out c V4 hlt;have PK : Hid (∀ {W' : World},V W' -> Calls Tryz.prog 21 #[.int .i64 (c : Int)] W' fun e w'=>e = .returned (pkV (pkN c)) /\ V w'):=fun {W'} hv=>PKC.out c hv hlt;have HS : Hid (∀ {W' : World},V W' -> Calls Tryz.prog 48 #[mt sa sb sc sd,pkV (pkN c)] W' fun e w'=>e = .returned (.bool (φ c)) /\ V w'):=fun {W'} hv=>HSC.out c hv;have HC : Hid (∀ {W' : World},V W' -> W'.cell? ⟨W.heap.size + 1,0,none⟩ = some (.int .u16 (sa : Int)) /\ W'.cell? ⟨W.heap.size + 1,1,none⟩ = some (.int .u16 (sb : Int)) /\ W'.cell? ⟨W.heap.size + 1,2,none⟩ = some (.int .u8 (sc : Int)) /\ W'.cell? ⟨W.heap.size + 1,3,none⟩ = some (.int .u8 (sd : Int)) /\ W'.cell? ⟨b,c,none⟩ = some (.int .i64 (g c))):=fun {W'} hv=>by
    obtain ⟨p0,p1,p2,p3⟩:=MC.out hv;exact ⟨p0,p1,p2,p3,CC.out c hv hlt⟩
   have VD : Hid (∀ {W' : World},V W' -> V W'.drew):=VDH;generalize pkV (pkN c) = pv at *;by_cases hg : 0 <= g c
   ·have f1 : decide (0 <= g c) = true:=by simpa using hg
    cases hph : φ c
    ·have hs : bestG g φ (c + 1) = bestG g φ c:=by
      rw [bstep];cases bestG g φ c with
      | none=>dsimp only;rw [if_neg (fun hh=>by rw [hph] at hh;cases hh.2)]
      | some x=>dsimp only;rw [if_neg (fun hh=>by rw [hph] at hh;cases hh.1.2)]
     rw [hph] at HS;have V4d:=VD.out V4;clear bstep;generalize g c = r at *;clear k0 CC PKC HSC;go_wp2_with fail;refine wp_region_held_drew (S:=(fun W'=>W'.cell? ⟨W.heap.size + 1,0,none⟩ = some (.int .u16 (sa : Int)) /\ W'.cell? ⟨W.heap.size + 1,1,none⟩ = some (.int .u16 (sb : Int)) /\ W'.cell? ⟨W.heap.size + 1,2,none⟩ = some (.int .u8 (sc : Int)) /\ W'.cell? ⟨W.heap.size + 1,3,none⟩ = some (.int .u8 (sd : Int)) /\ W'.cell? ⟨b,c,none⟩ = some (.int .i64 r))) (by kernel_rfl) (HC.out V4d) (fun hHeld=>?_);refine tk 0 ?_;try simp only [ly]
     refine tk 1 ?_;try simp only [ly]
     refine tk 2 ?_;try simp only [ly]
     refine tk 3 ?_;try simp only [ly]
     refine tk 4 ?_;try simp only [ly]
     refine tk 5 ?_;try simp only [ly]
     refine tk 6 ?_;try simp only [ly]
     refine tk 7 ?_;try simp only [ly]
     refine rd 8 (fun K hK=>?_);go_simp;with_reducible refine (PK.out V4d).mono ?_
     rintro e w4 ⟨rfl,V4⟩;have S4:=HC.out V4;dsimp only;clear hHeld;refine hK.out _ _ S4 (fun hHeld=>?_);clear hK K;try simp only [ly]
     refine rd 9 (fun K hK=>?_);go_simp;with_reducible refine (HS.out V4).mono ?_
     rintro e w5 ⟨rfl,V5⟩;have S5:=HC.out V5;dsimp only;clear hHeld;refine hK.out _ _ S5 (fun hHeld=>?_);clear hK K;try simp only [ly]
     refine tk 10 ?_;try simp only [ly]
     refine tk 11 ?_;try simp only [ly]
     refine tk0 12 ?_;try simp only [ly]
     refine tk0 13 ?_;try simp only [ly]
     refine tk0 14 ?_;try simp only [ly]
     refine tk0 15 ?_;try simp only [ly]
     refine tk0 16 ?_;try simp only [ly]
     refine tk0 17 ?_;try simp only [ly]
     refine tk0 18 ?_;try simp only [ly]
     refine tk0 19 ?_;try simp only [ly]
     refine tk0 20 ?_;try simp only [ly]
     refine tk0 21 ?_;try simp only [ly]
     refine tk0 22 ?_;try simp only [ly]
     refine tk0 23 ?_;try simp only [ly]
     refine tk0 24 ?_;try simp only [ly]
     refine tk 25 ?_;try simp only [ly]
     refine wpAnyH_done (by kernel_rfl) ?_ _;all_goals
      go_wp2_with fail;go_roundw
      case rel=>exact ⟨c + 1,by rw [hs],by go_num,by omega,V5⟩
      case measure=>first | omega | (simp [intOf];omega) | simp [intOf]
    ·rw [hph] at HS;have hsp:=SP.out c;cases hbx : bestG g φ c with
     | none =>
       have hs : bestG g φ (c + 1) = some c:=by
        rw [bstep,hbx];dsimp only;rw [if_pos ⟨hg,hph⟩]
       have V4d:=VD.out V4;clear bstep hsp;generalize g c = r at *;clear k0 CC PKC HSC;dsimp only [bestV];go_wp2_with fail;refine wp_region_held_drew (S:=(fun W'=>W'.cell? ⟨W.heap.size + 1,0,none⟩ = some (.int .u16 (sa : Int)) /\ W'.cell? ⟨W.heap.size + 1,1,none⟩ = some (.int .u16 (sb : Int)) /\ W'.cell? ⟨W.heap.size + 1,2,none⟩ = some (.int .u8 (sc : Int)) /\ W'.cell? ⟨W.heap.size + 1,3,none⟩ = some (.int .u8 (sd : Int)) /\ W'.cell? ⟨b,c,none⟩ = some (.int .i64 r))) (by kernel_rfl) (HC.out V4d) (fun hHeld=>?_);refine tk 0 ?_;try simp only [ly]
       refine tk 1 ?_;try simp only [ly]
       refine tk 2 ?_;try simp only [ly]
       refine tk 3 ?_;try simp only [ly]
       refine tk 4 ?_;try simp only [ly]
       refine tk 5 ?_;try simp only [ly]
       refine tk 6 ?_;try simp only [ly]
       refine tk 7 ?_;try simp only [ly]
       refine rd 8 (fun K hK=>?_);go_simp;with_reducible refine (PK.out V4d).mono ?_
       rintro e w4 ⟨rfl,V4⟩;have S4:=HC.out V4;dsimp only;clear hHeld;refine hK.out _ _ S4 (fun hHeld=>?_);clear hK K;try simp only [ly]
       refine rd 9 (fun K hK=>?_);go_simp;with_reducible refine (HS.out V4).mono ?_
       rintro e w5 ⟨rfl,V5⟩;have S5:=HC.out V5;dsimp only;clear hHeld;refine hK.out _ _ S5 (fun hHeld=>?_);clear hK K;try simp only [ly]
       refine tk 10 ?_;try simp only [ly]
       refine tk 11 ?_;try simp only [ly]
       refine tk 12 ?_;try simp only [ly]
       refine tk 13 ?_;try simp only [ly]
       refine tk 14 ?_;try simp only [ly]
       refine tk0 15 ?_;try simp only [ly]
       refine tk0 16 ?_;try simp only [ly]
       refine tk0 17 ?_;try simp only [ly]
       refine tk0 18 ?_;try simp only [ly]
       refine tk0 19 ?_;try simp only [ly]
       refine tk0 20 ?_;try simp only [ly]
       refine tk0 21 ?_;try simp only [ly]
       refine tk0 22 ?_;try simp only [ly]
       refine tk0 23 ?_;try simp only [ly]
       refine tk 24 ?_;try simp only [ly]
       refine tk 25 ?_;try simp only [ly]
       refine wpAnyH_done (by kernel_rfl) ?_ _;all_goals
        go_wp2_with fail;go_roundw
        case rel=>exact ⟨c + 1,by rw [hs],by go_num,by omega,V5⟩
        case measure=>first | omega | (simp [intOf];omega) | simp [intOf]
     | some x =>
       rw [hbx] at hsp;dsimp only at hsp;have hx16 : x < 16384:=by omega
       have z1 : decide ((x : Int) < 0) = false:=by simp
       have z2 : decide ((16384 : Int) <= (x : Int)) = false:=by simp;omega
       have z3 : (0 : Int) <= (x : Int):=by omega
       have z4 : (x : Int) < 16384:=by omega
       have HX : Hid (∀ {W' : World},V W' -> W'.cell? ⟨W.heap.size + 1,0,none⟩ = some (.int .u16 (sa : Int)) /\ W'.cell? ⟨W.heap.size + 1,1,none⟩ = some (.int .u16 (sb : Int)) /\ W'.cell? ⟨W.heap.size + 1,2,none⟩ = some (.int .u8 (sc : Int)) /\ W'.cell? ⟨W.heap.size + 1,3,none⟩ = some (.int .u8 (sd : Int)) /\ W'.cell? ⟨b,c,none⟩ = some (.int .i64 (g c)) /\ W'.cell? ⟨b,x,none⟩ = some (.int .i64 (g x))):=fun {W'} hv=>by
        obtain ⟨p0,p1,p2,p3⟩:=MC.out hv;exact ⟨p0,p1,p2,p3,CC.out c hv hlt,CC.out x hv hx16⟩
       have V4d:=VD.out V4;dsimp only [bestV];cases hxx : decide (g c < g x)
       ·have hs : bestG g φ (c + 1) = some x:=by
         rw [bstep,hbx];dsimp only;rw [if_neg (fun hh=>by simp at hxx;omega)]
        clear bstep;generalize g c = r at *;generalize g x = rx at *;clear k0 CC PKC HSC HC;go_wp2_with fail;go_region_held3 (fun W'=>W'.cell? ⟨W.heap.size + 1,0,none⟩ = some (.int .u16 (sa : Int)) /\ W'.cell? ⟨W.heap.size + 1,1,none⟩ = some (.int .u16 (sb : Int)) /\ W'.cell? ⟨W.heap.size + 1,2,none⟩ = some (.int .u8 (sc : Int)) /\ W'.cell? ⟨W.heap.size + 1,3,none⟩ = some (.int .u8 (sd : Int)) /\ W'.cell? ⟨b,c,none⟩ = some (.int .i64 r) /\ W'.cell? ⟨b,x,none⟩ = some (.int .i64 rx)) (exact HX.out ‹_›)
         ((first | (go_at_call 21;refine (PK.out ‹_›).mono ?_;rintro e w4 ⟨rfl,V4⟩) | (go_at_call 48; refine (HS.out ‹_›).mono ?_; rintro e w5 ⟨rfl, V5⟩)))
        all_goals
         go_wp2_with fail;go_roundw
         case rel=>exact ⟨c + 1,by rw [hs],by go_num,by omega,V5⟩
         case measure=>first | omega | (simp [intOf];omega) | simp [intOf]
       ·have hs : bestG g φ (c + 1) = some c:=by
         rw [bstep,hbx];dsimp only;rw [if_pos ⟨⟨hg,hph⟩,by simpa using hxx⟩]
        clear bstep;generalize g c = r at *;generalize g x = rx at *;clear k0 CC PKC HSC HC;go_wp2_with fail;go_region_held3 (fun W'=>W'.cell? ⟨W.heap.size + 1,0,none⟩ = some (.int .u16 (sa : Int)) /\ W'.cell? ⟨W.heap.size + 1,1,none⟩ = some (.int .u16 (sb : Int)) /\ W'.cell? ⟨W.heap.size + 1,2,none⟩ = some (.int .u8 (sc : Int)) /\ W'.cell? ⟨W.heap.size + 1,3,none⟩ = some (.int .u8 (sd : Int)) /\ W'.cell? ⟨b,c,none⟩ = some (.int .i64 r) /\ W'.cell? ⟨b,x,none⟩ = some (.int .i64 rx)) (exact HX.out ‹_›)
         ((first | (go_at_call 21;refine (PK.out ‹_›).mono ?_;rintro e w4 ⟨rfl,V4⟩) | (go_at_call 48; refine (HS.out ‹_›).mono ?_; rintro e w5 ⟨rfl, V5⟩)))
        all_goals
         go_wp2_with fail;go_roundw
         case rel=>exact ⟨c + 1,by rw [hs],by go_num,by omega,V5⟩
         case measure=>first | omega | (simp [intOf];omega) | simp [intOf]
   ·have f1 : decide (0 <= g c) = false:=by simpa using hg
    have hs : bestG g φ (c + 1) = bestG g φ c:=by
     rw [bstep];cases bestG g φ c with
     | none=>dsimp only;rw [if_neg (fun hh=>hg hh.1)]
     | some x=>dsimp only;rw [if_neg (fun hh=>hg hh.1.1)]
    have V4d:=VD.out V4;clear bstep HS PK HC;generalize g c = r at *;go_wp2_with fail;go_region;go_wp2_with fail;go_roundw
    case rel=>exact ⟨c + 1,by rw [hs],by go_num,by omega,V4d⟩
    case measure=>first | omega | (simp [intOf];omega) | simp [intOf]
  ·obtain rfl : c = 16384:=by omega
   have hsp:=SP.out 16384;cases hbx : bestG g φ 16384 with
   | none =>
     obtain ⟨D5,B5⟩:=OUT.out V4;obtain ⟨q0,q1,q2,q3,r0,r1,r2,r3⟩:=B5.four;dsimp only [bestV];clear OUT PKC HSC MC CC SP;go_wp2_with fail;refine bodyPost_ret (v:=.tuple #[pkV ⟨0,0,0,0⟩,.bool false]) (by simp [results,Tryz.results14,go_sem,q0,q1,q2,q3]) rfl ⟨by rw [hbx];rfl,?_⟩;exact (((D5.setCell (by simp;omega) _).setCell (by simp;omega) _).setCell (by simp;omega) _).setCell (by simp;omega) _
   | some x =>
     rw [hbx] at hsp;dsimp only at hsp;have PK:=PKC.out x V4 hsp;have PK : Hid (Calls Tryz.prog 21 #[.int .i64 (x : Int)] wr fun e w'=>e = .returned (pkV (pkN x)) /\ V w'):=PK;have z1 : decide ((x : Int) < 0) = false:=by simp
     dsimp only [bestV];clear PKC HSC MC CC SP;go_wp2_with fail;refine PK.out.mono ?_;rintro e w5 ⟨rfl,V5⟩;obtain ⟨D5,B5⟩:=OUT.out V5;obtain ⟨q0,q1,q2,q3,r0,r1,r2,r3⟩:=B5.four;clear OUT PK;go_wp2_with fail;refine bodyPost_ret (v:=.tuple #[pkV (pkN x),.bool true]) (by simp [results,Tryz.results14,go_sem,q0,q1,q2,q3]) rfl ⟨by rw [hbx];rfl,?_⟩;exact (((D5.setCell (by simp;omega) _).setCell (by simp;omega) _).setCell (by simp;omega) _).setCell (by simp;omega) _
def firstP (ds : List Dv) (T : Tab) (t : Int × Int) (sa sb sc sd : Nat) : Option Nat:=if isPl ds t.1 t.2 = true then bestG (T t) (phiC sa sb sc sd) 16384 else none
theorem sfirst_any (h : SpV ds ls S M bl T k W) {t : Int × Int} (ht : prtOk t) (sa sb sc sd : Nat) (ha : sa < 65536) (hb' : sb < 65536) (hc' : sc < 256) (hd' : sd < 256) :
  Calls Tryz.prog 14 #[.pointer (some ⟨S,0,none⟩),.agg #[.int .i64 t.1,.int .i64 t.2],mt sa sb sc sd] W fun e w'=>e = .returned (firstV (firstP ds T t sa sb sc sd)) /\ Below W.heap.size W w':=by
 unfold firstP;cases hb : bl t with
 | none =>
   rw [if_neg (fun h1=>by
    obtain ⟨b,e⟩:=(h.dom t).2 h1;rw [hb] at e;cases e)]
   exact sfirst_none h ht hb sa sb sc sd
 | some b =>
   rw [if_pos ((h.dom t).1 ⟨b,hb⟩)];exact sfirst_in h ht hb sa sb sc sd ha hb' hc' hd'
end
theorem intBits_or (a b : Nat) (k : Nat) (hk : k <= 62) (ha : a < 2 ^ k) (hb : b < 2 ^ k) : Go.bits .or .i64 (a : Int) (b : Int) = ((a ||| b : Nat) : Int):=by
 have hp : 2 ^ k <= 2 ^ 62:=Nat.pow_le_pow_right (by omega) hk;have e1 : BitVec.ofInt 64 (a : Int) = BitVec.ofNat 64 a:=by simp
 have e2 : BitVec.ofInt 64 (b : Int) = BitVec.ofNat 64 b:=by simp
 have hle : a ||| b < 2 ^ k:=Nat.or_lt_two_pow ha hb
 have hm : (BitVec.ofNat 64 a ||| BitVec.ofNat 64 b).toNat = a ||| b:=by
  simp [BitVec.toNat_or,Nat.mod_eq_of_lt (show a < 18446744073709551616 by omega),Nat.mod_eq_of_lt (show b < 18446744073709551616 by omega)]
 show IntKind.i64.wrap ((BitVec.ofInt 64 (a : Int) ||| BitVec.ofInt 64 (b : Int)).toNat : Int) = _;rw [e1,e2,hm,IntWalk.i64_in _ (by omega)]
theorem tb_low {m j c : Nat} (hc : c < 2 ^ j) : (2 ^ (j + 1) * m + c).testBit j = false:=by
 have hp : 0 < 2 ^ j:=Nat.two_pow_pos j;rw [Nat.testBit_eq_decide_div_mod_eq,show 2 ^ (j + 1) * m + c = 2 ^ j * (2 * m) + c by rw [Nat.pow_succ,Nat.mul_assoc],Nat.mul_add_div hp,Nat.div_eq_of_lt hc];simp
theorem tb_high {m j c : Nat} (hc : c < 2 ^ j) : (2 ^ (j + 1) * m + 2 ^ j + c).testBit j = true:=by
 have hp : 0 < 2 ^ j:=Nat.two_pow_pos j;rw [Nat.testBit_eq_decide_div_mod_eq,show 2 ^ (j + 1) * m + 2 ^ j + c = 2 ^ j * (2 * m + 1) + c by rw [Nat.pow_succ,Nat.mul_add,Nat.mul_assoc,Nat.mul_one],Nat.mul_add_div hp,Nat.div_eq_of_lt hc];simp
structure Found (vars : Nat) (ns : List Nd) (f F B : Nat) : Prop where
 lt : F < ns.length
 ne : F ≠ 0
 mul : ∃ m,B = 2 ^ (vars - nv ns F) * m
 le : B + 2 ^ (vars - nv ns F) <= 2 ^ vars
 same : ∀ c,c < 2 ^ (vars - nv ns F) -> ev ns f (envOf vars (B + c)) = ev ns F (envOf vars (B + c))
 none : ∀ b,b < B -> ev ns f (envOf vars b) = false
section
variable {vars : Nat} {ns : List Nd}
theorem found_start (wf : Wf vars ns) {f : Nat} (hf : f < ns.length) (h0 : f ≠ 0) : Found vars ns f f 0:=by
 have:=va_le wf hf;refine ⟨hf,h0,⟨0,rfl⟩,?_,fun c _=>rfl,fun b hb=>by omega⟩;rw [Nat.zero_add];exact Nat.pow_le_pow_right (by omega) (by omega)
theorem Found.low (wf : Wf vars ns) {f F B : Nat} (h : Found vars ns f F B) (F2 : 2 <= F) (hl : nl ns F ≠ 0) : Found vars ns f (nl ns F) B:=by
 have hF:=h.lt;have l1:=wf.lo F F2 hF;have v0:=wf.va F F2 hF;have v1:=wf.vlo F F2 hF;have v2:=va_le wf (f:=nl ns F) (by omega);obtain ⟨m,hm⟩:=h.mul;have hk : vars - nv ns F = (vars - nv ns F - 1) + 1:=by omega
 have hk2 : vars - nv ns F = (vars - nv ns (nl ns F)) + (nv ns (nl ns F) - nv ns F):=by omega
 have hle : 2 ^ (vars - nv ns (nl ns F)) <= 2 ^ (vars - nv ns F - 1):=Nat.pow_le_pow_right (by omega) (by omega);have hle2 : 2 ^ (vars - nv ns F - 1) <= 2 ^ (vars - nv ns F):=Nat.pow_le_pow_right (by omega) (by omega);refine ⟨by omega,hl,⟨2 ^ (nv ns (nl ns F) - nv ns F) * m,?_⟩,?_,fun c hc=>?_,h.none⟩
 ·rw [hm];conv=>lhs;rw [hk2,Nat.pow_add]
  rw [Nat.mul_assoc]
 ·have:=h.le;omega
 ·rw [h.same c (by omega),ev_node wf F2 hF];have hb : envOf vars (B + c) (nv ns F) = false:=by
   unfold envOf;rw [show vars - 1 - nv ns F = vars - nv ns F - 1 by omega,hm,hk];exact tb_low (by omega)
  rw [hb];simp
theorem Found.high (wf : Wf vars ns) {f F B : Nat} (h : Found vars ns f F B) (F2 : 2 <= F) (hl : nl ns F = 0) : Found vars ns f (nh ns F) (B ||| 2 ^ (vars - 1 - nv ns F)):=by
 have hF:=h.lt;have l1:=wf.hi F F2 hF;have v0:=wf.va F F2 hF;have v1:=wf.vhi F F2 hF;have v2:=va_le wf (f:=nh ns F) (by omega);have hne:=wf.ne F F2 hF;obtain ⟨m,hm⟩:=h.mul;have hj : vars - 1 - nv ns F = vars - nv ns F - 1:=by omega
 have hk : vars - nv ns F = (vars - nv ns F - 1) + 1:=by omega
 have hk2 : vars - nv ns F - 1 = (vars - nv ns (nh ns F)) + (nv ns (nh ns F) - nv ns F - 1):=by omega
 have hle : 2 ^ (vars - nv ns (nh ns F)) <= 2 ^ (vars - nv ns F - 1) := Nat.pow_le_pow_right (by omega) (by omega); have hdb : 2 ^ (vars - nv ns F) = 2 ^ (vars - nv ns F - 1) + 2 ^ (vars - nv ns F - 1) := by
  conv => lhs; rw [hk, Nat.pow_succ]
  omega
 have hor : B ||| 2 ^ (vars - 1 - nv ns F) = B + 2 ^ (vars - nv ns F - 1):=by
  rw [hj,hm,Nat.two_pow_add_eq_or_of_lt (by rw [hdb];have:=Nat.two_pow_pos (vars - nv ns F - 1);omega)]
 rw [hor];have tb : ∀ c,c < 2 ^ (vars - nv ns F - 1) -> envOf vars (B + c) (nv ns F) = false /\ envOf vars (B + 2 ^ (vars - nv ns F - 1) + c) (nv ns F) = true:=fun c hc=>by
  unfold envOf;rw [hj,hm,hk];refine ⟨tb_low (by simpa using hc),?_⟩;have:=tb_high (m:=m) (j:=vars - nv ns F - 1) (c:=c) hc;simpa using this
 refine ⟨by omega,by omega,⟨2 ^ (nv ns (nh ns F) - nv ns F - 1) * (2 * m + 1),?_⟩,?_,fun c hc=>?_,fun b hb=>?_⟩
 ·rw [<- Nat.mul_assoc,<- Nat.pow_add,<- hk2,hm]
  conv=>lhs;rw [hk,Nat.pow_succ]
  rw [show vars - nv ns F - 1 + 1 - 1 = vars - nv ns F - 1 by omega,Nat.mul_add,Nat.mul_one,Nat.mul_assoc]
 ·have:=h.le;omega
 ·rw [Nat.add_assoc,h.same _ (by omega),ev_node wf F2 hF,<- Nat.add_assoc,(tb c (by omega)).2];simp
 ·by_cases hbB : b < B
  ·exact h.none b hbB
  ·obtain ⟨c,rfl⟩ : ∃ c,b = B + c:=⟨b - B,by omega⟩;rw [h.same c (by omega),ev_node wf F2 hF,(tb c (by omega)).1,hl,ev0];simp
end
def IsOne (vars : Nat) (ns : List Nd) (f o : Nat) (s : Bool) : Prop :=
 (f = 0 /\ o = 0 /\ s = false) ∨ (f ≠ 0 /\ s = true /\ o < 2 ^ vars /\ ev ns f (envOf vars o) = true /\ ∀ b,b < o -> ev ns f (envOf vars b) = false)
theorem Found.end {vars : Nat} {ns : List Nd} {f B : Nat} (h : Found vars ns f 1 B) (h0 : f ≠ 0) : IsOne vars ns f B true:=by
 have hp:=Nat.two_pow_pos (vars - nv ns 1);have hl:=h.le;refine Or.inr ⟨h0,rfl,by omega,?_,h.none⟩;have:=h.same 0 hp;rw [Nat.add_zero,ev1] at this;exact this
section
variable {base a M vars most : Nat} {w : World} {ns : List Nd}
theorem one_ok (h : Ar base a M vars most w ns) {f : Nat} (hf : f < ns.length) :
  Calls Tryz.prog 88 #[.pointer (some ⟨a,0,none⟩),.int .i64 (f : Int)] w fun e w'=>∃ (o : Nat) (s : Bool),e = .returned (.tuple #[.int .i64 (o : Int),.bool s,.int .i64 0]) /\ IsOne vars ns f o s /\ Ar base a M vars most w' ns /\ Kp (ca base a M vars most) w w':=by
 have v16:=h.vars16;have wf:=h.wf;have hl4 : ns.length <= 40000:=Nat.le_trans h.le h.most4;have hpw : 2 ^ vars <= 2 ^ 16:=Nat.pow_le_pow_right (by omega) v16;have t1 : (decide ((0 : Int) <= (f : Int)) && decide ((f : Int) < (ns.length : Int))) = true:=by simp;omega
 go_enter Tryz.func88,Tryz.ntmps88;go_wp2_with (go_at_call 82;refine (hasFunction_any h (f : Int)).mono ?_;rintro e w' ⟨rfl,rfl⟩;rw [t1]);go_loopw [1,7] (fun g bb wr=>∃ F B : Nat,g = .int .i64 (F : Int) /\ bb = .int .i64 (B : Int) /\ ((f = 0 /\ F = 0 /\ B = 0) ∨ (f ≠ 0 /\ Found vars ns f F B)) /\ Ar base a M vars most wr ns /\ Kp (ca base a M vars most) w' wr) (fun g _ _=>(intOf g).toNat)
 case atStart =>
  refine ⟨f,0,rfl,rfl,?_,h,Kp.refl _ _⟩;by_cases h0 : f = 0
  ·exact Or.inl ⟨h0,h0,rfl⟩
  ·exact Or.inr ⟨h0,found_start wf hf h0⟩
 case round =>
  obtain ⟨F,B,rfl,rfl,hI,hA,hK⟩:=hrel;rcases hI with ⟨rfl,rfl,rfl⟩ | ⟨h0,hI⟩
  ·go_wp2_with fail
   go_ret3
   exact ⟨0,false,rfl,Or.inl ⟨rfl,rfl,rfl⟩,hA,hK⟩
  ·have hF:=hI.lt;have hI':=Hq.mk hI;by_cases hF2 : 2 <= F
   ·have t5 : decide ((1 : Int) < (F : Int)) = true:=by simp;omega
    obtain ⟨cap,c0,c1,c2,c3,cf,cn⟩:=hA.reads;obtain ⟨n0,n1,n2⟩:=cn F hF;have hlo:=wf.lo F hF2 hF;have hhi:=wf.hi F hF2 hF;have hva:=wf.va F hF2 hF;have hA1:=hA.alloc (.cells #[.int .i64 (nv ns F : Int),.int .i64 (nl ns F : Int),.int .i64 (nh ns F : Int)] 143);have hK1:=hK.trans (Ar.kalloc' hA (.cells #[.int .i64 (nv ns F : Int),.int .i64 (nl ns F : Int),.int .i64 (nh ns F : Int)] 143));have hBle : B < 2 ^ vars:=by have:=hI.le;have:=Nat.two_pow_pos (vars - nv ns F);omega
    have hq63 : ∀ q : Nat,q = 2 ^ (vars - 1 - nv ns F) -> Go.bits .or .i64 (B : Int) (q : Int) = ((B ||| q : Nat) : Int):=fun q hq=>intBits_or B q vars (by omega) hBle (by
     rw [hq];exact Nat.pow_lt_pow_right (by omega) (by omega))
    have hq63':=Hq.mk hq63;generalize rowOf wr a = g at *;clear cn hq63 hI;by_cases hl0 : nl ns F = 0
    ·have hl0':=Hq.mk hl0;rw [hl0] at n1 hA1 hK1;rw [hl0] at hlo;clear hl0;go_wp2_with (go_at_call 83;refine (bit_q hA1 hva).mono ?_;rintro e w2 ⟨q,rfl,hq,rfl⟩;have hbt:=hq63'.out q hq.out);go_roundw
     case rel=>exact ⟨nh ns F,B ||| q,rfl,rfl,Or.inr ⟨h0,by rw [hq.out];exact hI'.out.high wf hF2 hl0'.out⟩,hA1,hK1⟩
     case measure=>simp [intOf];omega
    ·have t6 : ((nl ns F : Int) == 0) = false:=by simp;omega
     go_wp2_with fail;go_roundw
     case rel=>exact ⟨nl ns F,B,rfl,rfl,Or.inr ⟨h0,hI'.out.low wf hF2 hl0⟩,hA1,hK1⟩
     case measure=>simp [intOf];omega
   ·obtain rfl : F = 1:=by have:=hI.ne;omega
    clear hI;go_wp2_with fail
    go_ret3
    exact ⟨B,true,rfl,hI'.out.end h0,hA,hK⟩
end
end Go.Proofs.YtppbfikimalojaaGreat
