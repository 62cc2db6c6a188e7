/-
  XAS.
-/
import Derived.Test.YtppbfikimalojaaGreatXAQ
import Derived.Test.YtppbfikimalojaaGreatXAR
import Derived.Test.YtppbfikimalojaaGreatXAI
import Derived.Test.YtppbfikimalojaaGreatXAP
import Derived.Test.YtppbfikimalojaaGreatXAA
import Derived.Laws.AppendOwnNone
import Derived.Lib.SliceRun
import Derived.ChangeKeysEq
import Derived.Test.YtppbfikimalojaaGreatXAN
set_option maxHeartbeats 8000000
set_option maxRecDepth 100000
namespace Go.Proofs.YtppbfikimalojaaGreat
open Go.RowKit Go.Maps
theorem rules_ofP {base : Nat} {w : World} {v : Value} {xs : List NRule} (h : SlAt base w 5 IsRule v xs) : Rules base w v (xs.map fun r=>⟨r.ok,r.a,r.b,r.c,r.d,r.ha,r.hb,r.hc,r.hd⟩):=by
 obtain ⟨A,cap,rfl,h0,h1,h2,h3⟩:=h;refine ⟨A,cap,by rw [List.length_map],h0,by rw [List.length_map];exact h1,h2,fun hn=>?_⟩;obtain ⟨b,o,ea,hl,hr⟩:=h3 (fun e=>hn (by rw [e];rfl));refine ⟨b,o,ea,hl,fun j u hj=>?_⟩;have hjl:=(List.getElem?_eq_some_iff.1 hj).1;rw [cellsR_length,List.length_map] at hjl;have hk : j / 5 < xs.length:=by omega
 have hx : xs[j / 5]? = some xs[j / 5]:=List.getElem?_eq_getElem hk;obtain ⟨cs,_,rfl,hc⟩:=hr _ _ hx;obtain ⟨c0,c1,c2,c3,c4⟩:=cellsR_at (xs.map fun r : NRule=>(⟨r.ok,r.a,r.b,r.c,r.d,r.ha,r.hb,r.hc,r.hd⟩ : Rl)) (j / 5) _ (by rw [List.getElem?_map,hx];rfl);have hm : j % 5 = 0 ∨ j % 5 = 1 ∨ j % 5 = 2 ∨ j % 5 = 3 ∨ j % 5 = 4:=by omega
 have eo : o + j = o + j / 5 * 5 + j % 5:=by omega
 rw [eo];rcases hm with hm | hm | hm | hm | hm
 ·rw [show j = j / 5 * 5 by omega,c0] at hj;rw [hm,<- Option.some.inj hj];exact hc 0 _ rfl
 ·rw [show j = j / 5 * 5 + 1 by omega,c1] at hj;rw [hm,<- Option.some.inj hj];exact hc 1 _ rfl
 ·rw [show j = j / 5 * 5 + 2 by omega,c2] at hj;rw [hm,<- Option.some.inj hj];exact hc 2 _ rfl
 ·rw [show j = j / 5 * 5 + 3 by omega,c3] at hj;rw [hm,<- Option.some.inj hj];exact hc 3 _ rfl
 ·rw [show j = j / 5 * 5 + 4 by omega,c4] at hj;rw [hm,<- Option.some.inj hj];exact hc 4 _ rfl
theorem devC_sizesP {d : Dv} (h : devC d = 0) : d.backs.length <= 3 /\ d.rules.length <= 8 /\ d.routes.length <= 8:=by
 unfold devC devV at h
 split at h
 ·simp at h
 split at h
 ·simp at h
 rename_i h1 h2
 split at h
 ·simp at h
 rename_i h3
 split at h
 ·simp at h
 split at h
 ·simp at h
 split at h
 ·simp at h
 split at h
 ·simp at h
 rename_i h8
 have hr : d.routes.length <= 8:=by
  unfold checkV at h
  split at h
  ·simp at h
  ·rename_i h9
   simpa using h9
 exact ⟨by omega,by omega,hr⟩
section
variable {B0 : Nat} {W0 W W' : World} {nb sb S M kb mb n0 : Nat} {vd vl : Value} {ds : List Dv} {ls : List Lk} {bl : (Int × Int) -> Option Nat} {T : Tab} {k : Int} {P : PutS} {t : Int × Int} {b c : Nat} {bx : Boxes}
theorem Dx.set {cs : Array Value} {ty : TypeId} (h : Dx B0 W0 nb sb S M kb mb vd vl ds ls bl T k n0 ((b,cs,ty) :: bx) P W) (hp : nb < n0 /\ sb < n0 /\ S < n0 /\ M < n0 /\ kb < n0 /\ B0 <= n0) (hne : ∀ y ∈ bx,y.1 ≠ b) (j : Nat) (u : Value) : Dx B0 W0 nb sb S M kb mb vd vl ds ls bl T k n0 ((b,cs.setIfInBounds j u,ty) :: bx) P (W.setCell ⟨b,j,none⟩ u):=by
 obtain ⟨p1,p2,p3,p4,p5,p6⟩:=hp;obtain ⟨hb0,hbk⟩:=h.bx _ List.mem_cons_self;have hb0 : n0 <= b:=hb0;have h1 : ∀ i,i ≠ b -> (W.setCell ⟨b,j,none⟩ u).heap[i]? = W.heap[i]?:=fun i hi=>Below.heap_setCell W ⟨b,j,none⟩ u i hi;have hbel : Below B0 W (W.setCell ⟨b,j,none⟩ u):=(Below.refl B0 W).setCell (p:=⟨b,j,none⟩) (by show B0 <= b;omega) u;have x:=h.x;have hm:=h.lo.1;refine ⟨⟨x.bel.trans hbel,x.d.below hbel,x.l.below hbel,(h1 _ (by omega)).trans x.n,(h1 _ (by omega)).trans x.s,(h1 _ (by omega)).trans x.S,x.map.same (h1 _ (by omega)),fun t b' e=>⟨(x.row t b' e).1.same (h1 _ (by have:=h.lo.2 t b' e;omega)),(x.row t b' e).2⟩,x.inj,(h1 _ (by omega)).trans x.k,(h1 _ (by omega)).trans x.m,x.lo,x.dom⟩,by simpa [World.setCell] using h.up,h.lo,fun y hy=>?_⟩;rcases List.mem_cons.1 hy with rfl | hy
 ·exact ⟨hb0,Bk.setS hbk u⟩
 ·exact ⟨(h.bx y (List.mem_cons_of_mem _ hy)).1,(h1 _ (hne y hy)).trans (h.bx y (List.mem_cons_of_mem _ hy)).2⟩
theorem Dx.low (h : Dx B0 W0 nb sb S M kb mb vd vl ds ls bl T k n0 bx P W) (hp : nb < n0 /\ sb < n0 /\ S < n0 /\ M < n0 /\ kb < n0 /\ B0 <= n0) {hb : Nat} (hn : n0 <= hb) (hx : ∀ y ∈ bx,y.1 < hb) (hB : Below hb W W') : Dx B0 W0 nb sb S M kb mb vd vl ds ls bl T k n0 bx P W':=by
 obtain ⟨p1,p2,p3,p4,p5,p6⟩:=hp;have h1 : ∀ i,i < hb -> W'.heap[i]? = W.heap[i]?:=fun i hi=>hB.block i hi;have hbel : Below B0 W W':=hB.mono (by omega);have x:=h.x;have hm:=h.lo.1;exact ⟨⟨x.bel.trans hbel,x.d.below hbel,x.l.below hbel,(h1 _ (by omega)).trans x.n,(h1 _ (by omega)).trans x.s,(h1 _ (by omega)).trans x.S,x.map.same (h1 _ (by omega)),fun t b' e=>⟨(x.row t b' e).1.same (h1 _ (by have:=h.lo.2 t b' e;omega)),(x.row t b' e).2⟩,x.inj,(h1 _ (by omega)).trans x.k,(h1 _ (by omega)).trans x.m,x.lo,x.dom⟩,Nat.le_trans h.up hB.size,h.lo,fun y hy=>⟨(h.bx y hy).1,(h1 _ (hx y hy)).trans (h.bx y hy).2⟩⟩
theorem Dx.frx (h : Dx B0 W0 nb sb S M kb mb vd vl ds ls bl T k n0 bx P W) {P' : PutS} (hS : Sx B0 W0 nb sb S M kb mb vd vl ds ls bl T k P' W') (hF : FrX bl mb W W') : Dx B0 W0 nb sb S M kb mb vd vl ds ls bl T k n0 bx P' W' :=
 ⟨hS,Nat.le_trans h.up hF.1,h.lo,fun y hy=>by
  obtain ⟨h1,h2⟩:=h.bx y hy;exact ⟨h1,(hF.2 y.1 h2.lt (fun t e=>by have:=h.lo.2 t _ e;omega) (by have:=h.lo.1;omega)).trans h2⟩⟩
theorem dx_dl (hp : nb < n0 /\ sb < n0 /\ S < n0 /\ M < n0 /\ kb < n0 /\ B0 <= n0) : DL (fun bx Q W=>Dx B0 W0 nb sb S M kb mb vd vl ds ls bl T k n0 bx Q W) n0 :=
 ⟨fun h=>h.up,fun h h1 h2 h3=>h.low hp h1 h2 h3,fun h hg hk=>⟨h.x,h.up,h.lo,fun y hy=>by
  rcases List.mem_cons.1 hy with rfl | hy
  ·exact ⟨hg,hk⟩
  ·exact h.bx y hy⟩⟩
theorem dx_dv {A L : Option Addr} {cap cap' i : Nat} {d : Dv} {vr vt : Value} (hz : netV ds ls = 0) (hk : 0 <= k /\ k < 1000000) (hd : ds[i]? = some d) (hr : SlAt B0 W0 5 IsRule vr d.rules) (ht : SlAt B0 W0 3 IsRoute vt d.routes) (hp : nb < n0 /\ sb < n0 /\ S < n0 /\ M < n0 /\ kb < n0 /\ B0 <= n0) :
  DV (fun bx Q W=>Dx B0 W0 nb sb S M kb mb (.slice A ds.length cap) (.slice L ls.length cap') ds ls bl T k n0 bx Q W) d i ls T k S nb sb kb mb (.agg #[.slice A ds.length cap,.slice L ls.length cap']) vr vt:=by
 refine ⟨fun h hb=>h.below hb,fun h c t=>h.new c t,fun h y hy=>h.get hy,fun h hs=>h.less hs,fun h hne j u=>h.set hp hne j u,?_,?_,?_,?_,?_⟩
 ·intro bx Q W h q c hq hq2 hc;have hpl : isPl ds (i : Int) q = true:=by
   have hi:=(List.getElem?_eq_some_iff.1 hd).1;unfold isPl;have : kindAt ds (i : Int) = d.kind:=by simp [kindAt,hd]
   rw [this];simp only [Bool.and_eq_true,decide_eq_true_eq];omega
  obtain ⟨b,hb⟩:=h.x.dom ((i : Int),q) hpl;exact was_any h.x hb hc
 ·intro bx Q W h o p hpo;cases hpe : peerF ls (i : Int) o with
  | none =>
    refine (put_none (sb:=sb) (.slice A ds.length cap) L cap' ls i o p nb kb mb W h.x.n (h.x.l.mono h.x.size) hpe).mono fun e w' ⟨h1,h2⟩=>⟨h1,?_⟩;rw [addP_none];exact h.below h2
  | some t=>exact (put_some L cap' i o p h.x hz hpo hk hpe).mono fun e w' ⟨h1,h2,h3⟩=>⟨h1,h.frx h2 h3⟩
 ·intro bx Q W h o;exact (rpeer_any (.slice A ds.length cap) L ls.length cap' ls i o W (h.x.l.mono h.x.size)).mono fun e w' ⟨h1,h2⟩=>⟨h1,h.below h2⟩
 ·intro bx Q W h x;exact (rout_any (v:=vt) (xs:=routesOf d) x W (routes_of (SlAt.mono (SlAt.below ht h.x.bel (fun _ _ _ h=>h)) h.x.size (fun _ _ _ h=>h)))).mono fun e w' ⟨h1,h2⟩=>⟨h1,h.below h2⟩
 ·intro bx Q W h p;exact (rlets_any (v:=vr) (xs:=rulesOf d) p.s p.d p.sp p.dp W (rules_ofP (SlAt.mono (SlAt.below hr h.x.bel (fun _ _ _ h=>h)) h.x.size (fun _ _ _ h=>h)))).mono fun e w' ⟨h1,h2⟩=>⟨h1,h.below h2⟩
theorem dev_any {A L : Option Addr} {cap cap' i : Nat} {d : Dv} (h : Sx B0 W0 nb sb S M kb mb (.slice A ds.length cap) (.slice L ls.length cap') ds ls bl T k P W) (hz : netV ds ls = 0) (hk : 0 <= k /\ k < 1000000) (hd : ds[i]? = some d) (hdv : devC d = 0) (hd0 : Devs B0 W0 (.slice A ds.length cap) ds) (hO : ∀ c,c < 16384 -> 1 < portsV d.kind -> wasB T k ((i : Int),1) c = true -> (peerF ls (i : Int) 1).isSome = true) :
  Calls Tryz.prog 38 #[.pointer (some ⟨S,0,none⟩),.agg #[.slice A ds.length cap,.slice L ls.length cap'],.int .i64 (i : Int),.int .i64 k,.func (.func 36) #[] #[.pointer (some ⟨nb,0,none⟩),.pointer (some ⟨sb,0,none⟩),.pointer (some ⟨kb,0,none⟩),.pointer (some ⟨mb,0,none⟩)]] W fun e w'=>e = .returned (.tuple #[]) /\ Sx B0 W0 nb sb S M kb mb (.slice A ds.length cap) (.slice L ls.length cap') ds ls bl T k (un P (devP d (i : Int) ls T k)) w':=by
 obtain ⟨hkd,ha,hbs,_,_⟩:=dev_right hdv;have hl3:=(devC_sizesP hdv).1;have hil:=(List.getElem?_eq_some_iff.1 hd).1;obtain ⟨b,o,vb,vr,vt,rfl,hlt,sb1,sr1,st1,c0,c1,c2,c3,c4,c5,c6⟩:=hd0.at hd;have hp : nb < W.heap.size /\ sb < W.heap.size /\ S < W.heap.size /\ M < W.heap.size /\ kb < W.heap.size /\ B0 <= W.heap.size:=⟨h.n.lt,h.s.lt,h.S.lt,h.map.lt,h.k.lt,h.size⟩;have H : Hid (DV (fun bx Q W'=>Dx B0 W0 nb sb S M kb mb (.slice (some ⟨b,o,none⟩) ds.length cap) (.slice L ls.length cap') ds ls bl T k W.heap.size bx Q W') d i ls T k S nb sb kb mb (.agg #[.slice (some ⟨b,o,none⟩) ds.length cap,.slice L ls.length cap']) vr vt):=dx_dv hz hk hd sr1 st1 hp;have HL : Hid (DL (fun bx Q W'=>Dx B0 W0 nb sb S M kb mb (.slice (some ⟨b,o,none⟩) ds.length cap) (.slice L ls.length cap') ds ls bl T k W.heap.size bx Q W') W.heap.size):=dx_dl hp;have V0 : Dx B0 W0 nb sb S M kb mb (.slice (some ⟨b,o,none⟩) ds.length cap) (.slice L ls.length cap') ds ls bl T k W.heap.size [] P W:=⟨h,Nat.le_refl _,⟨h.m.lt,fun t b e=>(h.row t b e).1.lt⟩,fun y hy=>by cases hy⟩;have HD : Hid (∀ bx Q W',Dx B0 W0 nb sb S M kb mb (.slice (some ⟨b,o,none⟩) ds.length cap) (.slice L ls.length cap') ds ls bl T k W.heap.size bx Q W' -> W'.cell? ⟨b,o + i * 7,none⟩ = some (.string d.name) /\ W'.cell? ⟨b,o + i * 7 + 1,none⟩ = some (.int .i64 d.kind) /\ W'.cell? ⟨b,o + i * 7 + 2,none⟩ = some (.int .i64 d.addr) /\ W'.cell? ⟨b,o + i * 7 + 3,none⟩ = some (.int .u8 (d.pool : Int)) /\ W'.cell? ⟨b,o + i * 7 + 4,none⟩ = some vb /\ W'.cell? ⟨b,o + i * 7 + 5,none⟩ = some vr /\ W'.cell? ⟨b,o + i * 7 + 6,none⟩ = some vt):=fun bx Q W' hv=>by
  have hb:=hv.x.bel;have e : ∀ j,W'.cell? ⟨b,j,none⟩ = W0.cell? ⟨b,j,none⟩:=fun j=>hb.cell (p:=⟨b,j,none⟩) hlt;exact ⟨(e _).trans c0,(e _).trans c1,(e _).trans c2,(e _).trans c3,(e _).trans c4,(e _).trans c5,(e _).trans c6⟩
 have hv : (∃ A n c,vb = .slice A n c) /\ (∃ A n c,vr = .slice A n c) /\ ∃ A n c,vt = .slice A n c:=by
  obtain ⟨a1,b1,e1,_⟩:=sb1;obtain ⟨a2,b2,e2,_⟩:=sr1;obtain ⟨a3,b3,e3,_⟩:=st1;exact ⟨⟨_,_,_,e1⟩,⟨_,_,_,e2⟩,⟨_,_,_,e3⟩⟩
 have HB : Hid (∀ bx Q W',Dx B0 W0 nb sb S M kb mb (.slice (some ⟨b,o,none⟩) ds.length cap) (.slice L ls.length cap') ds ls bl T k W.heap.size bx Q W' -> SlAt W'.heap.size W' 1 IsI vb d.backs):=fun bx Q W' hx=>SlAt.mono (SlAt.below sb1 hx.x.bel (fun _ _ _ h=>h)) hx.x.size (fun _ _ _ h=>h);have hi : (i : Int) < (ds.length : Int):=by omega
 by_cases k2 : d.kind = 2
 ·refine (dev2_any _ d i ls T k S nb sb kb mb b o _ cap _ L cap' vb vr vt P W hi k2 H V0 HD hv).mono fun e w' ⟨h1,h2⟩=>⟨h1,?_⟩;rw [show ((4 : Nat) : Int) = 4 from rfl,dev2 k2] at h2;exact h2.x
 by_cases k3 : d.kind = 3
 ·refine (dev3_any _ d i ls T k S nb sb kb mb b o _ cap _ L cap' vb vr vt P W hi k3 H V0 HD hv).mono fun e w' ⟨h1,h2⟩=>⟨h1,?_⟩;rw [show ((2 : Nat) : Int) = 2 from rfl,dev3 k3 (fun c hc=>hO c hc (by rw [k3];decide))] at h2;exact h2.x
 by_cases k4 : d.kind = 4
 ·cases hop : (peerF ls (i : Int) 1).isSome with
  | true =>
    refine (dev4t_any _ d i ls T k S nb sb kb mb b o _ cap _ L cap' vb vr vt P W hop hi k4 H V0 HD hv W.heap.size HL ha d.hp).mono fun e w' ⟨h1,os,h2,h3⟩=>⟨h1,?_⟩;rw [show ((2 : Nat) : Int) = 2 from rfl,dev4 k4 ha h2] at h3;exact h3.x
  | false =>
    refine (dev4f_any _ d i ls T k S nb sb kb mb b o _ cap _ L cap' vb vr vt P W hop hi k4 H V0 HD hv ha d.hp).mono fun e w' ⟨h1,h3⟩=>⟨h1,?_⟩;rw [show ((2 : Nat) : Int) = 2 from rfl,dev4f k4 ha (fun c hc=>by
     cases hw : wasB T k ((i : Int),1) c
     ·rfl
     ·have:=hO c hc (by rw [k4];decide) hw;rw [hop] at this;cases this)] at h3
    exact h3.x
 by_cases k5 : d.kind = 5
 ·refine (dev5_any _ d i ls T k S nb sb kb mb b o _ cap _ L cap' vb vr vt P W hi k5 H V0 HD hv ha hbs hl3 HB).mono fun e w' ⟨h1,h2⟩=>⟨h1,?_⟩;rw [show ((2 : Nat) : Int) = 2 from rfl,dev5 k5 ha hbs (fun c hc=>hO c hc (by rw [k5];decide))] at h2;exact h2.x
 obtain ⟨Pn,hP,hP4⟩ : ∃ Pn : Nat,portsV d.kind = (Pn : Int) /\ Pn <= 4:=by
  have hk1 : d.kind = 1:=by omega
  exact ⟨1,by rw [hk1];rfl,by omega⟩
 refine (devN_any _ d i ls T k S nb sb kb mb b o _ cap _ L cap' vb vr vt P W hi Pn hP4 hP (by simpa using k2) (by simpa using k3) (by simpa using k4) (by simpa using k5) H V0 HD hv).mono fun e w' ⟨h1,h2⟩=>⟨h1,?_⟩;rw [devNone (by omega),un_no (fun _ _ h=>h)];exact h2.x
end
theorem rspread_any (A L : Option Addr) (cap cap' : Nat) (ds : List Dv) (ls : List Lk) (w : World) (hz : Hid (netV ds ls = 0)) (hD : Hid (Devs w.heap.size w (.slice A ds.length cap) ds)) (hL : Hid (Links w.heap.size w (.slice L ls.length cap') ls)) :
  Calls Tryz.prog 9 #[.agg #[.slice A ds.length cap,.slice L ls.length cap']] w fun e w'=>∃ (S M : Nat) (bl : (Int × Int) -> Option Nat) (T : Tab) (k : Nat),e = .returned (.pointer (some ⟨S,0,none⟩)) /\ SpV ds ls S M bl T k w' /\ Below w.heap.size w w' :=
 spread_any A L cap cap' ds ls w hz hD hL fun _ _ _ _ _ _ _ _ _ _ _ d hx hk hd hO=>dev_any hx hz.out hk hd (netV_devsP hz.out d (List.mem_of_getElem? hd)) hD.out hO
end Go.Proofs.YtppbfikimalojaaGreat
namespace Go.Proofs.YtppbfikimalojaaGreat
open Go.RowKit
abbrev prV (a b : Int) : Value:=.agg #[.int .i64 a,.int .i64 b]
def cellsP (xs : List (Int × Int)) : List Value:=xs.flatMap fun p=>[.int .i64 p.1,.int .i64 p.2]
theorem cellsP_cons (p : Int × Int) (l : List (Int × Int)) : cellsP (p :: l) = .int .i64 p.1 :: .int .i64 p.2 :: cellsP l:=rfl
theorem cellsP_append (a b : List (Int × Int)) : cellsP (a ++ b) = cellsP a ++ cellsP b:=by simp [cellsP]
theorem cellsP_at : ∀ (xs : List (Int × Int)) (k : Nat) (p : Int × Int),xs[k]? = some p -> (cellsP xs)[k * 2]? = some (.int .i64 p.1) /\ (cellsP xs)[k * 2 + 1]? = some (.int .i64 p.2)
 | [],k,p,h=>by simp at h
 | x :: l,0,p,h=>by
   obtain rfl : x = p:=by simpa using h
   exact ⟨rfl,rfl⟩
 | x :: l,k + 1,p,h=>by
   have ih:=cellsP_at l k p (by simpa using h);rw [cellsP_cons,show (k + 1) * 2 = k * 2 + 1 + 1 by omega,show k * 2 + 1 + 1 + 1 = (k * 2 + 1) + 1 + 1 by omega];exact ih
def Prs (base : Nat) (w : World) (v : Value) (xs : List (Int × Int)) : Prop :=
 ∃ A cap,v = .slice A xs.length cap /\ xs.length <= cap /\ cap <= maxLen /\ (xs ≠ [] -> ∃ b o,A = some ⟨b,o,none⟩ /\ b < base /\ ∀ k p,xs[k]? = some p -> w.cell? ⟨b,o + k * 2,none⟩ = some (.int .i64 p.1) /\ w.cell? ⟨b,o + k * 2 + 1,none⟩ = some (.int .i64 p.2))
theorem Prs.below {base : Nat} {w w' : World} {v : Value} {xs : List (Int × Int)} (h : Prs base w v xs) (hb : Below base w w') : Prs base w' v xs:=by
 obtain ⟨A,cap,e,h1,h2,h3⟩:=h;refine ⟨A,cap,e,h1,h2,fun hn=>?_⟩;obtain ⟨b,o,ea,hl,hr⟩:=h3 hn;refine ⟨b,o,ea,hl,fun k p hk=>?_⟩;obtain ⟨c0,c1⟩:=hr k p hk;exact ⟨(hb.cell (p:=⟨b,_,none⟩) hl).trans c0,(hb.cell (p:=⟨b,_,none⟩) hl).trans c1⟩
theorem Prs.mono {base base' : Nat} {w : World} {v : Value} {xs : List (Int × Int)} (h : Prs base w v xs) (hb : base <= base') : Prs base' w v xs:=by
 obtain ⟨A,cap,e,h1,h2,h3⟩:=h;refine ⟨A,cap,e,h1,h2,fun hn=>?_⟩;obtain ⟨b,o,ea,hl,hr⟩:=h3 hn;exact ⟨b,o,ea,by omega,hr⟩
theorem Prs.own {base : Nat} {w : World} {t : TypeId} {v : Value} {xs : List (Int × Int)} (h : w.ownsRow base t 2 v xs.length (cellsP xs)) : Prs w.heap.size w v xs:=by
 have hh:=h;obtain ⟨hl,hc⟩:=h;rcases hc with ⟨rfl,h0⟩ | ⟨g,cap,cur,rfl,hb,hg,hn,hcap,hs,ht⟩
 ·exact ⟨none,0,by rw [h0],by omega,by unfold maxLen;omega,fun hn=>absurd (List.length_eq_zero_iff.1 h0) hn⟩
 ·refine ⟨_,cap,rfl,hn,hcap,fun _=>⟨g,0,rfl,(Array.getElem?_eq_some_iff.1 hg).1,fun k p hk=>?_⟩⟩;obtain ⟨c0,c1⟩:=cellsP_at xs k p hk;have e0:=hh.cells (g:=g) rfl _ _ c0;have e1:=hh.cells (g:=g) rfl _ _ c1;rw [Addr.add_lit] at e0 e1;exact ⟨e0,e1⟩
theorem Tryz.uPairs : Tryz.prog.underlying 94 = some (.slice 97):=by kernel_rfl
theorem Tryz.infoPair : (Tryz.prog.info? 97).map (fun i=>(i.zero,i.size,i.bytes)) = some (some (.agg #[.int .i64 0,.int .i64 0]),2,16):=by kernel_rfl
theorem pair_eq (a b c d : Int) (w : World) : (binOp .eql 97 (prV a b) (prV c d)).run Tryz.prog w = .ok (.bool ((a == c) && (b == d))) w:=by
 obtain ⟨i,hi⟩ : ∃ i,Tryz.prog.info? 3 = some i:=by
  have h : (Tryz.prog.info? 3).isSome = true:=by kernel_rfl
  exact Option.isSome_iff_exists.1 h
 rw [run_eql_struct,show (10000 : Nat) = 9998 + 1 + 1 from rfl,run_equalIn_array w (9998 + 1) _ _ Tryz.underlying97 hi,nInt,show List.range 2 = [0,1] from rfl];have p0 : ∀ (x y : Int) (w : World),(part 3 #[.int .i64 x,.int .i64 y] (0 * 1)).run Tryz.prog w = .ok (.int .i64 x) w:=fun _ _ _=>by kernel_rfl
 have p1 : ∀ (x y : Int) (w : World),(part 3 #[.int .i64 x,.int .i64 y] 1).run Tryz.prog w = .ok (.int .i64 y) w:=fun _ _ _=>by kernel_rfl
 have q : ∀ (x y : Int) (w : World),(Op.equalIn 9999 3 (.int .i64 x) (.int .i64 y)).run Tryz.prog w = .ok (x == y) w:=fun x y w=>run_equalIn_int w 9998 3 .i64 .i64 x y Tryz.underlying3;simp only [Op.eqItems,Sem.run_bind,p0,Result.andThen_ok,q];cases h1 : (a == c) <;> cases h2 : (b == d) <;> simp [p1,q,h2]
theorem any_takeP {xs : List (Int × Int)} {k : Nat} {p q : Int × Int} (h : xs[k]? = some p) : (xs.take (k + 1)).any (fun x=>(q.1 == x.1) && (q.2 == x.2)) = ((xs.take k).any (fun x=>(q.1 == x.1) && (q.2 == x.2)) || ((q.1 == p.1) && (q.2 == p.2))):=by
 obtain ⟨hk,e⟩:=List.getElem?_eq_some_iff.1 h;rw [List.take_succ_eq_append_getElem hk,e];simp
def hasP (xs : List (Int × Int)) (q : Int × Int) : Bool:=xs.any (fun x=>(q.1 == x.1) && (q.2 == x.2))
theorem pairIdx_any (v : Value) (xs : List (Int × Int)) (a b : Int) (w : World) (hP : Hid (Prs w.heap.size w v xs)) :
  Calls Tryz.prog 72 #[v,prV a b] w fun e w'=>∃ j : Int,e = .returned (.int .i64 j) /\ Hid (decide (0 <= j) = hasP xs (a,b)) /\ Below w.heap.size w w':=by
 obtain ⟨A,cap,rfl,h1,h2,_⟩:=id hP.out;unfold maxLen at h2;generalize hres : hasP xs (a,b) = res;have HR : Hid (hasP xs (a,b) = res):=hres;clear hres;have D0:=Below.alN (Below.refl w.heap.size w) (.cells #[.int .i64 a,.int .i64 b] 97);have B0:=box2_new w (.int .i64 a) (.int .i64 b) 97;go_enter Tryz.func72,Tryz.ntmps72;go_wp2_with fail;go_loopw [8] (fun i wr=>∃ k : Nat,i = .int .i64 (k : Int) /\ k <= xs.length /\ Below w.heap.size w wr /\ Box2 wr w.heap.size (.int .i64 a) (.int .i64 b) /\ Hid ((xs.take k).any (fun x=>(a == x.1) && (b == x.2)) = false)) (fun i _=>xs.length - (intOf i).toNat)
 case atStart=>exact ⟨0,rfl,by omega,D0,B0,rfl⟩
 case round =>
  clear D0 B0;obtain ⟨k,rfl,hk,D1,B1,hno⟩:=hrel;by_cases hlt : k < xs.length
  ·obtain ⟨p,hxk⟩ : ∃ p,xs[k]? = some p:=⟨_,List.getElem?_eq_getElem hlt⟩;obtain ⟨A',cap',e,_,_,h3⟩:=hP.out.below D1;cases e;obtain ⟨g,o,rfl,hg,hc⟩:=h3 (fun e=>by subst e;simp at hxk);obtain ⟨c0,c1⟩:=hc k p hxk;have PE:=fun w=>pair_eq a b p.1 p.2 w;have HT : Hid ((xs.take (k + 1)).any (fun x=>(a == x.1) && (b == x.2)) = ((xs.take k).any (fun x=>(a == x.1) && (b == x.2)) || ((a == p.1) && (b == p.2)))):=any_takeP (q:=(a,b)) hxk;have HM : Hid (((a == p.1) && (b == p.2)) = true -> hasP xs (a,b) = true):=fun h=>List.any_eq_true.2 ⟨p,List.mem_of_getElem? hxk,h⟩;have k1 : (0 : Int) <= (k : Int):=by omega
   have k2 : (k : Int) < (xs.length : Int):=by omega
   obtain ⟨_,q0,q1,_⟩:=id B1;clear hxk hc h3 hP;generalize ((a == p.1) && (b == p.2)) = y at *;generalize p.1 = px at *;generalize p.2 = py at *;cases y
   ·have HV : Hid ((xs.take (k + 1)).any (fun x=>(a == x.1) && (b == x.2)) = false):=by
     show _ = _;rw [HT.out,hno.out];rfl
    clear HT HM hno;go_wp2_with fail
    go_quiet (fail)
    go_wp2_with fail;go_roundw
    case rel=>exact ⟨k + 1,by go_num,by omega,belowNN D1 _,B1,HV⟩
    case measure=>simp [intOf];omega
   ·have HV : Hid (res = true):=by
     show _ = _;rw [<- HR.out,HM.out rfl]
    clear HT HM hno;go_wp2_with fail
    go_quiet (fail)
    go_wp2_with fail;go_ret;exact ⟨_,rfl,(by show _ = _;rw [HV.out];simp),belowNN D1 _⟩
  ·have HV : Hid (res = false):=by
    show _ = _;rw [<- HR.out];have:=hno.out;rw [show k = xs.length by omega,List.take_length] at this;exact this
   go_wp2_with fail;go_ret;exact ⟨_,rfl,(by show _ = _;rw [HV.out];simp),D1⟩
theorem pairHas_any (v : Value) (xs : List (Int × Int)) (a b : Int) (w : World) (hP : Prs w.heap.size w v xs) :
  Calls Tryz.prog 34 #[v,prV a b] w fun e w'=>e = .returned (.bool (hasP xs (a,b))) /\ Below w.heap.size w w':=by
 have D0:=Below.alN (Below.refl w.heap.size w) (.cells #[.int .i64 a,.int .i64 b] 97);have IX : Hid (∀ W,Below w.heap.size w W -> Calls Tryz.prog 72 #[v,prV a b] W fun e w'=>∃ j : Int,e = .returned (.int .i64 j) /\ Hid (decide (0 <= j) = hasP xs (a,b)) /\ Below W.heap.size W w'):=fun W h=>pairIdx_any v xs a b W ((hP.below h).mono h.size);obtain ⟨A,cap,rfl,_,_,_⟩:=hP;generalize hasP xs (a,b) = x at *;go_enter Tryz.func34,Tryz.ntmps34;go_wp2_with fail;refine (IX.out _ D0).mono ?_;rintro e w2 ⟨j,rfl,hj,hb2⟩;have D2:=chnN hb2 D0;clear IX;go_wp2_with fail;go_ret;exact ⟨by rw [hj.out];rfl,D2⟩
theorem app_pairs {base : Nat} {w : World} {v : Value} {xs : List (Int × Int)} {tb : Nat} {a b c d : Int} (ty : TypeId) (h : w.ownsRow base 97 2 v xs.length (cellsP xs)) (c0 : w.cell? ⟨tb,0,none⟩ = some (.int .i64 a)) (c1 : w.cell? ⟨tb,1,none⟩ = some (.int .i64 b)) (c2 : w.cell? ⟨tb,2,none⟩ = some (.int .i64 c)) (c3 : w.cell? ⟨tb,3,none⟩ = some (.int .i64 d)) (hs : xs.length <= 1099511627776) (hb : base <= w.heap.size) :
  ∃ v' w',(Builtin.append_ #[94,94] ty #[v,.slice (some ⟨tb,0,none⟩) 2 2]).run Tryz.prog w = .ok v' w' /\ w'.ownsRow base 97 2 v' (xs ++ [(a,b),(c,d)]).length (cellsP (xs ++ [(a,b),(c,d)])) /\ w.grownBy w' v.ownBlock:=by
 obtain ⟨i0,hi,hz0,hz1,hz2⟩:=info_parts Tryz.infoPair;obtain ⟨v',w',hr,h4,h5,_⟩:=run_append_own (P:=Tryz.prog) w base 94 ty 97 i0 _ 2 16 Tryz.uPairs hi hz0 hz1 hz2 rfl (by decide) v xs.length (cellsP xs) h ⟨tb,0,none⟩ 2 2 (cellsP [(a,b),(c,d)]) rfl (fun j u hj=>by
   rw [Addr.add_lit,Nat.zero_add]
   match j,hj with
   | 0,hj=>obtain rfl:=Option.some.inj hj;exact c0
   | 1,hj=>obtain rfl:=Option.some.inj hj;exact c1
   | 2,hj=>obtain rfl:=Option.some.inj hj;exact c2
   | 3,hj=>obtain rfl:=Option.some.inj hj;exact c3) (fun u hu=>by
     simp only [cellsP,List.flatMap_cons,List.flatMap_nil,List.append_nil,List.cons_append,List.nil_append,List.mem_cons,List.not_mem_nil,or_false] at hu;rcases hu with rfl | rfl | rfl | rfl <;> rfl) (by unfold maxLen;omega) (by omega) hb
 rw [List.length_append,cellsP_append];exact ⟨v',w',hr,h4,h5⟩
theorem Below.app2 {B base : Nat} {w0 w w' : World} {t : TypeId} {s n : Nat} {v : Value} {cs : List Value} (h : Below B w0 w) (ho : w.ownsRow base t s v n cs) (hg : w.grownBy w' v.ownBlock) (hB : B <= base) (hb : base <= w.heap.size) : Below B w0 w' :=
 h.grown hg (by omega) (fun k e=>by have:=(ho.lt k e).1;omega)
theorem append_run2 {P : Program} {w w' : World} {ops : Array Oper} {rest : List Oper} {o : Oper} {a : Act} {Q : Exit -> Act -> World -> Prop} (hgd : o.guard = none) (s x : Operand) (t : TypeId)
  (ho : o.op = .call { callee:=.builtin .append,args:=#[s,x],argTypes:=#[t,t] }) {v x' v' : Value} (hs : a.eval s = v) (hx : a.eval x = x') (hr : (Builtin.append_ #[t,t] o.type #[v,x']).run P w = .ok v' w')
  (h : wpList P ops Q rest (a.put o.dst v') w') : wpList P ops Q (o :: rest) a w:=by
 refine wpList_plain hgd fun K hK=>?_;unfold Oper.wp execOp;simp only [ho,resolve,invoke,builtin,Sem.run_bind,Sem.run_pure,Result.andThen_ok,List.map_toArray,List.map_cons,List.map_nil,hs,hx,hr];exact hK _ _ h
theorem rdev_1 (nm : ByteArray) (ad : Int) (pl : Nat) (Ab Ar At : Option Addr) (nb cb nr cr nt ct : Nat) (c : Int) (w : World)
  (RT : Hid (∀ W,Below w.heap.size w W -> Calls Tryz.prog 71 #[.slice At nt ct] W fun e w'=>e = .returned (.int .i64 c) /\ Below W.heap.size W w')) :
  Calls Tryz.prog 33 #[.agg #[.string nm,.int .i64 1,.int .i64 ad,.int .u8 (pl : Int),.slice Ab nb cb,.slice Ar nr cr,.slice At nt ct]] w fun e w'=>e = .returned (.int .i64 (if (!(decide (0 <= ad) && decide (ad <= 15))) || (decide (0 < pl) != false) then 1 else if 3 < nb then 2 else if 0 < nb then 1 else if (decide (0 < nr)) || (decide (0 < nt)) then 1 else if 8 < nr then 2 else c)) /\ Below w.heap.size w w':=by
 have D0:=Below.alN (Below.refl w.heap.size w) (.cells #[.string nm,.int .i64 1,.int .i64 ad,.int .u8 (pl : Int),.slice Ab nb cb,.slice Ar nr cr,.slice At nt ct] 56);have I0 : Hid (∀ w,Calls Tryz.prog 8 #[.int .i64 1,.int .i64 1,.int .i64 5] w fun e w'=>e = .returned (.bool true) /\ w' = w):=fun w=>inN 1 1 5 w;have V0:=seven_new w (.string nm) (.int .i64 1) (.int .i64 ad) (.int .u8 (pl : Int)) (.slice Ab nb cb) (.slice Ar nr cr) (.slice At nt ct) 56;obtain ⟨_,q0,q1,q2,q3,q4,q5,q6⟩:=id V0;have I1 : Hid (∀ w,Calls Tryz.prog 8 #[.int .i64 ad,.int .i64 0,.int .i64 15] w fun e w'=>e = .returned (.bool (decide (0 <= ad) && decide (ad <= 15))) /\ w' = w):=fun w=>inN ad 0 15 w;generalize (decide (0 <= ad) && decide (ad <= 15)) = x0 at *;cases x0
 ·go_enter Tryz.func33,Tryz.ntmps33;go_wp2_with (first | (go_at_call_of 8 (Value.int .i64 1);refine (I0.out _).mono ?_;rintro e w' ⟨rfl,rfl⟩) | (go_at_call_of 8 (Value.int .i64 ad);refine (I1.out _).mono ?_;rintro e w' ⟨rfl,rfl⟩));go_ret;first | exact ⟨rfl,D0⟩ | exact ⟨by simp,D0⟩
 cases p0 : decide (0 < pl)
 ·have p1 : decide ((0 : Int) < (pl : Int)) = false:=by rw [<- p0];simp
  by_cases n3 : 3 < nb
  ·have u3 : decide ((3 : Int) < (nb : Int)) = true:=by simp;omega
   go_enter Tryz.func33,Tryz.ntmps33;go_wp2_with (first | (go_at_call_of 8 (Value.int .i64 1);refine (I0.out _).mono ?_;rintro e w' ⟨rfl,rfl⟩) | (go_at_call_of 8 (Value.int .i64 ad);refine (I1.out _).mono ?_;rintro e w' ⟨rfl,rfl⟩));go_ret;first | exact ⟨rfl,D0⟩ | exact ⟨by simp,D0⟩
  have u3 : decide ((3 : Int) < (nb : Int)) = false:=by simp;omega
  by_cases n0 : 0 < nb
  ·have u0 : ((nb : Int) == 0) = false:=by simp;omega
   go_enter Tryz.func33,Tryz.ntmps33;go_wp2_with (first | (go_at_call_of 8 (Value.int .i64 1);refine (I0.out _).mono ?_;rintro e w' ⟨rfl,rfl⟩) | (go_at_call_of 8 (Value.int .i64 ad);refine (I1.out _).mono ?_;rintro e w' ⟨rfl,rfl⟩));go_ret;first | exact ⟨rfl,D0⟩ | exact ⟨by simp,D0⟩
  obtain rfl : nb = 0:=by omega
  clear n3 u3 n0;by_cases r0 : 0 < nr
  ·have v0 : decide ((0 : Int) < (nr : Int)) = true:=by simp;omega
   go_enter Tryz.func33,Tryz.ntmps33;go_wp2_with (first | (go_at_call_of 8 (Value.int .i64 1);refine (I0.out _).mono ?_;rintro e w' ⟨rfl,rfl⟩) | (go_at_call_of 8 (Value.int .i64 ad);refine (I1.out _).mono ?_;rintro e w' ⟨rfl,rfl⟩));go_loopw [4] (fun i wr=>i = .int .i64 0 /\ wr = (w.alloc (.cells #[.string nm,.int .i64 1,.int .i64 ad,.int .u8 (pl : Int),.slice Ab 0 cb,.slice Ar nr cr,.slice At nt ct] 56))) (fun i _=>0)
   case atStart=>exact ⟨rfl,rfl⟩
   case round =>
    obtain ⟨rfl,rfl⟩:=hrel;go_wp2_with fail;go_ret;first | exact ⟨rfl,D0⟩ | exact ⟨by simp,D0⟩
  have v0 : decide ((0 : Int) < (nr : Int)) = false:=by simp;omega
  by_cases t0 : 0 < nt
  ·have z0 : decide ((0 : Int) < (nt : Int)) = true:=by simp;omega
   go_enter Tryz.func33,Tryz.ntmps33;go_wp2_with (first | (go_at_call_of 8 (Value.int .i64 1);refine (I0.out _).mono ?_;rintro e w' ⟨rfl,rfl⟩) | (go_at_call_of 8 (Value.int .i64 ad);refine (I1.out _).mono ?_;rintro e w' ⟨rfl,rfl⟩));go_loopw [4] (fun i wr=>i = .int .i64 0 /\ wr = (w.alloc (.cells #[.string nm,.int .i64 1,.int .i64 ad,.int .u8 (pl : Int),.slice Ab 0 cb,.slice Ar nr cr,.slice At nt ct] 56))) (fun i _=>0)
   case atStart=>exact ⟨rfl,rfl⟩
   case round =>
    obtain ⟨rfl,rfl⟩:=hrel;go_wp2_with fail;go_ret;first | exact ⟨rfl,D0⟩ | exact ⟨by simp,D0⟩
  have z0 : decide ((0 : Int) < (nt : Int)) = false:=by simp;omega
  have r8 : ¬ 8 < nr:=by omega
  have v8 : decide ((8 : Int) < (nr : Int)) = false:=by simp;omega
  go_enter Tryz.func33,Tryz.ntmps33;go_wp2_with (first | (go_at_call_of 8 (Value.int .i64 1);refine (I0.out _).mono ?_;rintro e w' ⟨rfl,rfl⟩) | (go_at_call_of 8 (Value.int .i64 ad);refine (I1.out _).mono ?_;rintro e w' ⟨rfl,rfl⟩));go_loopw [4] (fun i wr=>i = .int .i64 0 /\ wr = (w.alloc (.cells #[.string nm,.int .i64 1,.int .i64 ad,.int .u8 (pl : Int),.slice Ab 0 cb,.slice Ar nr cr,.slice At nt ct] 56))) (fun i _=>0)
  case atStart=>exact ⟨rfl,rfl⟩
  case round =>
   obtain ⟨rfl,rfl⟩:=hrel;go_wp2_with fail;refine (RT.out _ D0).mono ?_;rintro e w2 ⟨rfl,hb2⟩;have D2:=chnN hb2 D0;go_wp2_with fail;go_ret;first | exact ⟨rfl,D2⟩ | exact ⟨by simp,D2⟩
 ·have p1 : decide ((0 : Int) < (pl : Int)) = true:=by rw [<- p0];simp
  go_enter Tryz.func33,Tryz.ntmps33;go_wp2_with (first | (go_at_call_of 8 (Value.int .i64 1);refine (I0.out _).mono ?_;rintro e w' ⟨rfl,rfl⟩) | (go_at_call_of 8 (Value.int .i64 ad);refine (I1.out _).mono ?_;rintro e w' ⟨rfl,rfl⟩));go_ret;first | exact ⟨rfl,D0⟩ | exact ⟨by simp,D0⟩
theorem rdev_2 (nm : ByteArray) (ad : Int) (pl : Nat) (Ab Ar At : Option Addr) (nb cb nr cr nt ct : Nat) (c : Int) (w : World)
  (RT : Hid (∀ W,Below w.heap.size w W -> Calls Tryz.prog 71 #[.slice At nt ct] W fun e w'=>e = .returned (.int .i64 c) /\ Below W.heap.size W w')) :
  Calls Tryz.prog 33 #[.agg #[.string nm,.int .i64 2,.int .i64 ad,.int .u8 (pl : Int),.slice Ab nb cb,.slice Ar nr cr,.slice At nt ct]] w fun e w'=>e = .returned (.int .i64 (if (!(ad == 0)) || (decide (0 < pl) != false) then 1 else if 3 < nb then 2 else if 0 < nb then 1 else if false then 1 else if 8 < nr then 2 else c)) /\ Below w.heap.size w w':=by
 have D0:=Below.alN (Below.refl w.heap.size w) (.cells #[.string nm,.int .i64 2,.int .i64 ad,.int .u8 (pl : Int),.slice Ab nb cb,.slice Ar nr cr,.slice At nt ct] 56);have I0 : Hid (∀ w,Calls Tryz.prog 8 #[.int .i64 2,.int .i64 1,.int .i64 5] w fun e w'=>e = .returned (.bool true) /\ w' = w):=fun w=>inN 2 1 5 w;have V0:=seven_new w (.string nm) (.int .i64 2) (.int .i64 ad) (.int .u8 (pl : Int)) (.slice Ab nb cb) (.slice Ar nr cr) (.slice At nt ct) 56;obtain ⟨_,q0,q1,q2,q3,q4,q5,q6⟩:=id V0;cases a0 : (ad == 0)
 ·have a1 : (ad != 0) = true:=by simp [bne,a0]
  go_enter Tryz.func33,Tryz.ntmps33;go_wp2_with (go_at_call_of 8 (Value.int .i64 2);refine (I0.out _).mono ?_;rintro e w' ⟨rfl,rfl⟩);go_ret;first | exact ⟨rfl,D0⟩ | exact ⟨by simp,D0⟩
 have a1 : (ad != 0) = false:=by simp [bne,a0]
 cases p0 : decide (0 < pl)
 ·have p1 : decide ((0 : Int) < (pl : Int)) = false:=by rw [<- p0];simp
  by_cases n3 : 3 < nb
  ·have u3 : decide ((3 : Int) < (nb : Int)) = true:=by simp;omega
   go_enter Tryz.func33,Tryz.ntmps33;go_wp2_with (go_at_call_of 8 (Value.int .i64 2);refine (I0.out _).mono ?_;rintro e w' ⟨rfl,rfl⟩);go_ret;first | exact ⟨rfl,D0⟩ | exact ⟨by simp,D0⟩
  have u3 : decide ((3 : Int) < (nb : Int)) = false:=by simp;omega
  by_cases n0 : 0 < nb
  ·have u0 : ((nb : Int) == 0) = false:=by simp;omega
   go_enter Tryz.func33,Tryz.ntmps33;go_wp2_with (go_at_call_of 8 (Value.int .i64 2);refine (I0.out _).mono ?_;rintro e w' ⟨rfl,rfl⟩);go_ret;first | exact ⟨rfl,D0⟩ | exact ⟨by simp,D0⟩
  obtain rfl : nb = 0:=by omega
  clear n3 u3 n0;by_cases r0 : 0 < nr
  ·have v0 : decide ((0 : Int) < (nr : Int)) = true:=by simp;omega
   by_cases r8 : 8 < nr
   ·have v8 : decide ((8 : Int) < (nr : Int)) = true:=by simp;omega
    by_cases t0 : 0 < nt
    ·have z0 : decide ((0 : Int) < (nt : Int)) = true:=by simp;omega
     go_enter Tryz.func33,Tryz.ntmps33;go_wp2_with (go_at_call_of 8 (Value.int .i64 2);refine (I0.out _).mono ?_;rintro e w' ⟨rfl,rfl⟩);go_loopw [4] (fun i wr=>i = .int .i64 0 /\ wr = (w.alloc (.cells #[.string nm,.int .i64 2,.int .i64 ad,.int .u8 (pl : Int),.slice Ab 0 cb,.slice Ar nr cr,.slice At nt ct] 56))) (fun i _=>0)
     case atStart=>exact ⟨rfl,rfl⟩
     case round =>
      obtain ⟨rfl,rfl⟩:=hrel;go_wp2_with fail;go_ret;first | exact ⟨rfl,D0⟩ | exact ⟨by simp,D0⟩
    ·have z0 : decide ((0 : Int) < (nt : Int)) = false:=by simp;omega
     go_enter Tryz.func33,Tryz.ntmps33;go_wp2_with (go_at_call_of 8 (Value.int .i64 2);refine (I0.out _).mono ?_;rintro e w' ⟨rfl,rfl⟩);go_loopw [4] (fun i wr=>i = .int .i64 0 /\ wr = (w.alloc (.cells #[.string nm,.int .i64 2,.int .i64 ad,.int .u8 (pl : Int),.slice Ab 0 cb,.slice Ar nr cr,.slice At nt ct] 56))) (fun i _=>0)
     case atStart=>exact ⟨rfl,rfl⟩
     case round =>
      obtain ⟨rfl,rfl⟩:=hrel;go_wp2_with fail;go_ret;first | exact ⟨rfl,D0⟩ | exact ⟨by simp,D0⟩
   have v8 : decide ((8 : Int) < (nr : Int)) = false:=by simp;omega
   by_cases t0 : 0 < nt
   ·have z0 : decide ((0 : Int) < (nt : Int)) = true:=by simp;omega
    go_enter Tryz.func33,Tryz.ntmps33;go_wp2_with (go_at_call_of 8 (Value.int .i64 2);refine (I0.out _).mono ?_;rintro e w' ⟨rfl,rfl⟩);go_loopw [4] (fun i wr=>i = .int .i64 0 /\ wr = (w.alloc (.cells #[.string nm,.int .i64 2,.int .i64 ad,.int .u8 (pl : Int),.slice Ab 0 cb,.slice Ar nr cr,.slice At nt ct] 56))) (fun i _=>0)
    case atStart=>exact ⟨rfl,rfl⟩
    case round =>
     obtain ⟨rfl,rfl⟩:=hrel;go_wp2_with fail;refine (RT.out _ D0).mono ?_;rintro e w2 ⟨rfl,hb2⟩;have D2:=chnN hb2 D0;go_wp2_with fail;go_ret;first | exact ⟨rfl,D2⟩ | exact ⟨by simp,D2⟩
   ·have z0 : decide ((0 : Int) < (nt : Int)) = false:=by simp;omega
    go_enter Tryz.func33,Tryz.ntmps33;go_wp2_with (go_at_call_of 8 (Value.int .i64 2);refine (I0.out _).mono ?_;rintro e w' ⟨rfl,rfl⟩);go_loopw [4] (fun i wr=>i = .int .i64 0 /\ wr = (w.alloc (.cells #[.string nm,.int .i64 2,.int .i64 ad,.int .u8 (pl : Int),.slice Ab 0 cb,.slice Ar nr cr,.slice At nt ct] 56))) (fun i _=>0)
    case atStart=>exact ⟨rfl,rfl⟩
    case round =>
     obtain ⟨rfl,rfl⟩:=hrel;go_wp2_with fail;refine (RT.out _ D0).mono ?_;rintro e w2 ⟨rfl,hb2⟩;have D2:=chnN hb2 D0;go_wp2_with fail;go_ret;first | exact ⟨rfl,D2⟩ | exact ⟨by simp,D2⟩
  ·have v0 : decide ((0 : Int) < (nr : Int)) = false:=by simp;omega
   have r8 : ¬ 8 < nr:=by omega
   have v8 : decide ((8 : Int) < (nr : Int)) = false:=by simp;omega
   by_cases t0 : 0 < nt
   ·have z0 : decide ((0 : Int) < (nt : Int)) = true:=by simp;omega
    go_enter Tryz.func33,Tryz.ntmps33;go_wp2_with (go_at_call_of 8 (Value.int .i64 2);refine (I0.out _).mono ?_;rintro e w' ⟨rfl,rfl⟩);go_loopw [4] (fun i wr=>i = .int .i64 0 /\ wr = (w.alloc (.cells #[.string nm,.int .i64 2,.int .i64 ad,.int .u8 (pl : Int),.slice Ab 0 cb,.slice Ar nr cr,.slice At nt ct] 56))) (fun i _=>0)
    case atStart=>exact ⟨rfl,rfl⟩
    case round =>
     obtain ⟨rfl,rfl⟩:=hrel;go_wp2_with fail;refine (RT.out _ D0).mono ?_;rintro e w2 ⟨rfl,hb2⟩;have D2:=chnN hb2 D0;go_wp2_with fail;go_ret;first | exact ⟨rfl,D2⟩ | exact ⟨by simp,D2⟩
   ·have z0 : decide ((0 : Int) < (nt : Int)) = false:=by simp;omega
    go_enter Tryz.func33,Tryz.ntmps33;go_wp2_with (go_at_call_of 8 (Value.int .i64 2);refine (I0.out _).mono ?_;rintro e w' ⟨rfl,rfl⟩);go_loopw [4] (fun i wr=>i = .int .i64 0 /\ wr = (w.alloc (.cells #[.string nm,.int .i64 2,.int .i64 ad,.int .u8 (pl : Int),.slice Ab 0 cb,.slice Ar nr cr,.slice At nt ct] 56))) (fun i _=>0)
    case atStart=>exact ⟨rfl,rfl⟩
    case round =>
     obtain ⟨rfl,rfl⟩:=hrel;go_wp2_with fail;refine (RT.out _ D0).mono ?_;rintro e w2 ⟨rfl,hb2⟩;have D2:=chnN hb2 D0;go_wp2_with fail;go_ret;first | exact ⟨rfl,D2⟩ | exact ⟨by simp,D2⟩
 ·have p1 : decide ((0 : Int) < (pl : Int)) = true:=by rw [<- p0];simp
  go_enter Tryz.func33,Tryz.ntmps33;go_wp2_with (go_at_call_of 8 (Value.int .i64 2);refine (I0.out _).mono ?_;rintro e w' ⟨rfl,rfl⟩);go_ret;first | exact ⟨rfl,D0⟩ | exact ⟨by simp,D0⟩
theorem rdev_3 (nm : ByteArray) (ad : Int) (pl : Nat) (Ab Ar At : Option Addr) (nb cb nr cr nt ct : Nat) (c : Int) (w : World)
  (RT : Hid (∀ W,Below w.heap.size w W -> Calls Tryz.prog 71 #[.slice At nt ct] W fun e w'=>e = .returned (.int .i64 c) /\ Below W.heap.size W w')) :
  Calls Tryz.prog 33 #[.agg #[.string nm,.int .i64 3,.int .i64 ad,.int .u8 (pl : Int),.slice Ab nb cb,.slice Ar nr cr,.slice At nt ct]] w fun e w'=>e = .returned (.int .i64 (if (!(ad == 0)) || (decide (0 < pl) != false) then 1 else if 3 < nb then 2 else if 0 < nb then 1 else if decide (0 < nt) then 1 else if 8 < nr then 2 else c)) /\ Below w.heap.size w w':=by
 have D0:=Below.alN (Below.refl w.heap.size w) (.cells #[.string nm,.int .i64 3,.int .i64 ad,.int .u8 (pl : Int),.slice Ab nb cb,.slice Ar nr cr,.slice At nt ct] 56);have I0 : Hid (∀ w,Calls Tryz.prog 8 #[.int .i64 3,.int .i64 1,.int .i64 5] w fun e w'=>e = .returned (.bool true) /\ w' = w):=fun w=>inN 3 1 5 w;have V0:=seven_new w (.string nm) (.int .i64 3) (.int .i64 ad) (.int .u8 (pl : Int)) (.slice Ab nb cb) (.slice Ar nr cr) (.slice At nt ct) 56;obtain ⟨_,q0,q1,q2,q3,q4,q5,q6⟩:=id V0;cases a0 : (ad == 0)
 ·have a1 : (ad != 0) = true:=by simp [bne,a0]
  go_enter Tryz.func33,Tryz.ntmps33;go_wp2_with (go_at_call_of 8 (Value.int .i64 3);refine (I0.out _).mono ?_;rintro e w' ⟨rfl,rfl⟩);go_ret;first | exact ⟨rfl,D0⟩ | exact ⟨by simp,D0⟩
 have a1 : (ad != 0) = false:=by simp [bne,a0]
 cases p0 : decide (0 < pl)
 ·have p1 : decide ((0 : Int) < (pl : Int)) = false:=by rw [<- p0];simp
  by_cases n3 : 3 < nb
  ·have u3 : decide ((3 : Int) < (nb : Int)) = true:=by simp;omega
   go_enter Tryz.func33,Tryz.ntmps33;go_wp2_with (go_at_call_of 8 (Value.int .i64 3);refine (I0.out _).mono ?_;rintro e w' ⟨rfl,rfl⟩);go_ret;first | exact ⟨rfl,D0⟩ | exact ⟨by simp,D0⟩
  have u3 : decide ((3 : Int) < (nb : Int)) = false:=by simp;omega
  by_cases n0 : 0 < nb
  ·have u0 : ((nb : Int) == 0) = false:=by simp;omega
   go_enter Tryz.func33,Tryz.ntmps33;go_wp2_with (go_at_call_of 8 (Value.int .i64 3);refine (I0.out _).mono ?_;rintro e w' ⟨rfl,rfl⟩);go_ret;first | exact ⟨rfl,D0⟩ | exact ⟨by simp,D0⟩
  obtain rfl : nb = 0:=by omega
  clear n3 u3 n0;by_cases r0 : 0 < nr
  ·have v0 : decide ((0 : Int) < (nr : Int)) = true:=by simp;omega
   by_cases t0 : 0 < nt
   ·have z0 : decide ((0 : Int) < (nt : Int)) = true:=by simp;omega
    go_enter Tryz.func33,Tryz.ntmps33;go_wp2_with (go_at_call_of 8 (Value.int .i64 3);refine (I0.out _).mono ?_;rintro e w' ⟨rfl,rfl⟩);go_loopw [4] (fun i wr=>i = .int .i64 0 /\ wr = (w.alloc (.cells #[.string nm,.int .i64 3,.int .i64 ad,.int .u8 (pl : Int),.slice Ab 0 cb,.slice Ar nr cr,.slice At nt ct] 56))) (fun i _=>0)
    case atStart=>exact ⟨rfl,rfl⟩
    case round =>
     obtain ⟨rfl,rfl⟩:=hrel;go_wp2_with fail;go_ret;first | exact ⟨rfl,D0⟩ | exact ⟨by simp,D0⟩
   have z0 : decide ((0 : Int) < (nt : Int)) = false:=by simp;omega
   by_cases r8 : 8 < nr
   ·have v8 : decide ((8 : Int) < (nr : Int)) = true:=by simp;omega
    go_enter Tryz.func33,Tryz.ntmps33;go_wp2_with (go_at_call_of 8 (Value.int .i64 3);refine (I0.out _).mono ?_;rintro e w' ⟨rfl,rfl⟩);go_loopw [4] (fun i wr=>i = .int .i64 0 /\ wr = (w.alloc (.cells #[.string nm,.int .i64 3,.int .i64 ad,.int .u8 (pl : Int),.slice Ab 0 cb,.slice Ar nr cr,.slice At nt ct] 56))) (fun i _=>0)
    case atStart=>exact ⟨rfl,rfl⟩
    case round =>
     obtain ⟨rfl,rfl⟩:=hrel;go_wp2_with fail;go_ret;first | exact ⟨rfl,D0⟩ | exact ⟨by simp,D0⟩
   have v8 : decide ((8 : Int) < (nr : Int)) = false:=by simp;omega
   go_enter Tryz.func33,Tryz.ntmps33;go_wp2_with (go_at_call_of 8 (Value.int .i64 3);refine (I0.out _).mono ?_;rintro e w' ⟨rfl,rfl⟩);go_loopw [4] (fun i wr=>i = .int .i64 0 /\ wr = (w.alloc (.cells #[.string nm,.int .i64 3,.int .i64 ad,.int .u8 (pl : Int),.slice Ab 0 cb,.slice Ar nr cr,.slice At nt ct] 56))) (fun i _=>0)
   case atStart=>exact ⟨rfl,rfl⟩
   case round =>
    obtain ⟨rfl,rfl⟩:=hrel;go_wp2_with fail;refine (RT.out _ D0).mono ?_;rintro e w2 ⟨rfl,hb2⟩;have D2:=chnN hb2 D0;go_wp2_with fail;go_ret;first | exact ⟨rfl,D2⟩ | exact ⟨by simp,D2⟩
  ·have v0 : decide ((0 : Int) < (nr : Int)) = false:=by simp;omega
   by_cases t0 : 0 < nt
   ·have z0 : decide ((0 : Int) < (nt : Int)) = true:=by simp;omega
    go_enter Tryz.func33,Tryz.ntmps33;go_wp2_with (go_at_call_of 8 (Value.int .i64 3);refine (I0.out _).mono ?_;rintro e w' ⟨rfl,rfl⟩);go_loopw [4] (fun i wr=>i = .int .i64 0 /\ wr = (w.alloc (.cells #[.string nm,.int .i64 3,.int .i64 ad,.int .u8 (pl : Int),.slice Ab 0 cb,.slice Ar nr cr,.slice At nt ct] 56))) (fun i _=>0)
    case atStart=>exact ⟨rfl,rfl⟩
    case round =>
     obtain ⟨rfl,rfl⟩:=hrel;go_wp2_with fail;go_ret;first | exact ⟨rfl,D0⟩ | exact ⟨by simp,D0⟩
   have z0 : decide ((0 : Int) < (nt : Int)) = false:=by simp;omega
   have r8 : ¬ 8 < nr:=by omega
   have v8 : decide ((8 : Int) < (nr : Int)) = false:=by simp;omega
   go_enter Tryz.func33,Tryz.ntmps33;go_wp2_with (go_at_call_of 8 (Value.int .i64 3);refine (I0.out _).mono ?_;rintro e w' ⟨rfl,rfl⟩);go_loopw [4] (fun i wr=>i = .int .i64 0 /\ wr = (w.alloc (.cells #[.string nm,.int .i64 3,.int .i64 ad,.int .u8 (pl : Int),.slice Ab 0 cb,.slice Ar nr cr,.slice At nt ct] 56))) (fun i _=>0)
   case atStart=>exact ⟨rfl,rfl⟩
   case round =>
    obtain ⟨rfl,rfl⟩:=hrel;go_wp2_with fail;refine (RT.out _ D0).mono ?_;rintro e w2 ⟨rfl,hb2⟩;have D2:=chnN hb2 D0;go_wp2_with fail;go_ret;first | exact ⟨rfl,D2⟩ | exact ⟨by simp,D2⟩
 ·have p1 : decide ((0 : Int) < (pl : Int)) = true:=by rw [<- p0];simp
  go_enter Tryz.func33,Tryz.ntmps33;go_wp2_with (go_at_call_of 8 (Value.int .i64 3);refine (I0.out _).mono ?_;rintro e w' ⟨rfl,rfl⟩);go_ret;first | exact ⟨rfl,D0⟩ | exact ⟨by simp,D0⟩
theorem rdev_4 (nm : ByteArray) (ad : Int) (pl : Nat) (Ab Ar At : Option Addr) (nb cb nr cr nt ct : Nat) (c : Int) (w : World)
  (RT : Hid (∀ W,Below w.heap.size w W -> Calls Tryz.prog 71 #[.slice At nt ct] W fun e w'=>e = .returned (.int .i64 c) /\ Below W.heap.size W w')) :
  Calls Tryz.prog 33 #[.agg #[.string nm,.int .i64 4,.int .i64 ad,.int .u8 (pl : Int),.slice Ab nb cb,.slice Ar nr cr,.slice At nt ct]] w fun e w'=>e = .returned (.int .i64 (if (!(decide (0 <= ad) && decide (ad <= 15))) || (decide (0 < pl) != true) then 1 else if 3 < nb then 2 else if 0 < nb then 1 else if (decide (0 < nr)) || (decide (0 < nt)) then 1 else if 8 < nr then 2 else c)) /\ Below w.heap.size w w':=by
 have D0:=Below.alN (Below.refl w.heap.size w) (.cells #[.string nm,.int .i64 4,.int .i64 ad,.int .u8 (pl : Int),.slice Ab nb cb,.slice Ar nr cr,.slice At nt ct] 56);have I0 : Hid (∀ w,Calls Tryz.prog 8 #[.int .i64 4,.int .i64 1,.int .i64 5] w fun e w'=>e = .returned (.bool true) /\ w' = w):=fun w=>inN 4 1 5 w;have V0:=seven_new w (.string nm) (.int .i64 4) (.int .i64 ad) (.int .u8 (pl : Int)) (.slice Ab nb cb) (.slice Ar nr cr) (.slice At nt ct) 56;obtain ⟨_,q0,q1,q2,q3,q4,q5,q6⟩:=id V0;have I1 : Hid (∀ w,Calls Tryz.prog 8 #[.int .i64 ad,.int .i64 0,.int .i64 15] w fun e w'=>e = .returned (.bool (decide (0 <= ad) && decide (ad <= 15))) /\ w' = w):=fun w=>inN ad 0 15 w;generalize (decide (0 <= ad) && decide (ad <= 15)) = x0 at *;cases x0
 ·go_enter Tryz.func33,Tryz.ntmps33;go_wp2_with (first | (go_at_call_of 8 (Value.int .i64 4);refine (I0.out _).mono ?_;rintro e w' ⟨rfl,rfl⟩) | (go_at_call_of 8 (Value.int .i64 ad);refine (I1.out _).mono ?_;rintro e w' ⟨rfl,rfl⟩));go_ret;first | exact ⟨rfl,D0⟩ | exact ⟨by simp,D0⟩
 cases p0 : decide (0 < pl)
 ·have p1 : decide ((0 : Int) < (pl : Int)) = false:=by rw [<- p0];simp
  go_enter Tryz.func33,Tryz.ntmps33;go_wp2_with (first | (go_at_call_of 8 (Value.int .i64 4);refine (I0.out _).mono ?_;rintro e w' ⟨rfl,rfl⟩) | (go_at_call_of 8 (Value.int .i64 ad);refine (I1.out _).mono ?_;rintro e w' ⟨rfl,rfl⟩));go_ret;first | exact ⟨rfl,D0⟩ | exact ⟨by simp,D0⟩
 ·have p1 : decide ((0 : Int) < (pl : Int)) = true:=by rw [<- p0];simp
  by_cases n3 : 3 < nb
  ·have u3 : decide ((3 : Int) < (nb : Int)) = true:=by simp;omega
   go_enter Tryz.func33,Tryz.ntmps33;go_wp2_with (first | (go_at_call_of 8 (Value.int .i64 4);refine (I0.out _).mono ?_;rintro e w' ⟨rfl,rfl⟩) | (go_at_call_of 8 (Value.int .i64 ad);refine (I1.out _).mono ?_;rintro e w' ⟨rfl,rfl⟩));go_ret;first | exact ⟨rfl,D0⟩ | exact ⟨by simp,D0⟩
  have u3 : decide ((3 : Int) < (nb : Int)) = false:=by simp;omega
  by_cases n0 : 0 < nb
  ·have u0 : ((nb : Int) == 0) = false:=by simp;omega
   go_enter Tryz.func33,Tryz.ntmps33;go_wp2_with (first | (go_at_call_of 8 (Value.int .i64 4);refine (I0.out _).mono ?_;rintro e w' ⟨rfl,rfl⟩) | (go_at_call_of 8 (Value.int .i64 ad);refine (I1.out _).mono ?_;rintro e w' ⟨rfl,rfl⟩));go_ret;first | exact ⟨rfl,D0⟩ | exact ⟨by simp,D0⟩
  obtain rfl : nb = 0:=by omega
  clear n3 u3 n0;by_cases r0 : 0 < nr
  ·have v0 : decide ((0 : Int) < (nr : Int)) = true:=by simp;omega
   go_enter Tryz.func33,Tryz.ntmps33;go_wp2_with (first | (go_at_call_of 8 (Value.int .i64 4);refine (I0.out _).mono ?_;rintro e w' ⟨rfl,rfl⟩) | (go_at_call_of 8 (Value.int .i64 ad);refine (I1.out _).mono ?_;rintro e w' ⟨rfl,rfl⟩));go_loopw [4] (fun i wr=>i = .int .i64 0 /\ wr = (w.alloc (.cells #[.string nm,.int .i64 4,.int .i64 ad,.int .u8 (pl : Int),.slice Ab 0 cb,.slice Ar nr cr,.slice At nt ct] 56))) (fun i _=>0)
   case atStart=>exact ⟨rfl,rfl⟩
   case round =>
    obtain ⟨rfl,rfl⟩:=hrel;go_wp2_with fail;go_ret;first | exact ⟨rfl,D0⟩ | exact ⟨by simp,D0⟩
  have v0 : decide ((0 : Int) < (nr : Int)) = false:=by simp;omega
  by_cases t0 : 0 < nt
  ·have z0 : decide ((0 : Int) < (nt : Int)) = true:=by simp;omega
   go_enter Tryz.func33,Tryz.ntmps33;go_wp2_with (first | (go_at_call_of 8 (Value.int .i64 4);refine (I0.out _).mono ?_;rintro e w' ⟨rfl,rfl⟩) | (go_at_call_of 8 (Value.int .i64 ad);refine (I1.out _).mono ?_;rintro e w' ⟨rfl,rfl⟩));go_loopw [4] (fun i wr=>i = .int .i64 0 /\ wr = (w.alloc (.cells #[.string nm,.int .i64 4,.int .i64 ad,.int .u8 (pl : Int),.slice Ab 0 cb,.slice Ar nr cr,.slice At nt ct] 56))) (fun i _=>0)
   case atStart=>exact ⟨rfl,rfl⟩
   case round =>
    obtain ⟨rfl,rfl⟩:=hrel;go_wp2_with fail;go_ret;first | exact ⟨rfl,D0⟩ | exact ⟨by simp,D0⟩
  have z0 : decide ((0 : Int) < (nt : Int)) = false:=by simp;omega
  have r8 : ¬ 8 < nr:=by omega
  have v8 : decide ((8 : Int) < (nr : Int)) = false:=by simp;omega
  go_enter Tryz.func33,Tryz.ntmps33;go_wp2_with (first | (go_at_call_of 8 (Value.int .i64 4);refine (I0.out _).mono ?_;rintro e w' ⟨rfl,rfl⟩) | (go_at_call_of 8 (Value.int .i64 ad);refine (I1.out _).mono ?_;rintro e w' ⟨rfl,rfl⟩));go_loopw [4] (fun i wr=>i = .int .i64 0 /\ wr = (w.alloc (.cells #[.string nm,.int .i64 4,.int .i64 ad,.int .u8 (pl : Int),.slice Ab 0 cb,.slice Ar nr cr,.slice At nt ct] 56))) (fun i _=>0)
  case atStart=>exact ⟨rfl,rfl⟩
  case round =>
   obtain ⟨rfl,rfl⟩:=hrel;go_wp2_with fail;refine (RT.out _ D0).mono ?_;rintro e w2 ⟨rfl,hb2⟩;have D2:=chnN hb2 D0;go_wp2_with fail;go_ret;first | exact ⟨rfl,D2⟩ | exact ⟨by simp,D2⟩
theorem rdev_5 (nm : ByteArray) (ad : Int) (pl : Nat) (Ab Ar At : Option Addr) (bs : List Int) (cb nr cr nt ct : Nat) (c : Int) (w : World) (hcap : bs.length <= cb) (hmax : cb <= maxLen) (hB : Hid (SlAt w.heap.size w 1 IsI (.slice Ab bs.length cb) bs))
  (RT : Hid (∀ W,Below w.heap.size w W -> Calls Tryz.prog 71 #[.slice At nt ct] W fun e w'=>e = .returned (.int .i64 c) /\ Below W.heap.size W w')) :
  Calls Tryz.prog 33 #[.agg #[.string nm,.int .i64 5,.int .i64 ad,.int .u8 (pl : Int),.slice Ab bs.length cb,.slice Ar nr cr,.slice At nt ct]] w fun e w'=>e = .returned (.int .i64 (if (!(decide (0 <= ad) && decide (ad <= 15))) || (decide (0 < pl) != false) then 1 else if 3 < bs.length then 2 else if bs.length = 0 then 1 else if backsFrom bs ad 0 = 1 then 1 else if (decide (0 < nr)) || (decide (0 < nt)) then 1 else c)) /\ Below w.heap.size w w':=by
 unfold maxLen at hmax;have D0:=Below.alN (Below.refl w.heap.size w) (.cells #[.string nm,.int .i64 5,.int .i64 ad,.int .u8 (pl : Int),.slice Ab bs.length cb,.slice Ar nr cr,.slice At nt ct] 56);have I0 : Hid (∀ w,Calls Tryz.prog 8 #[.int .i64 5,.int .i64 1,.int .i64 5] w fun e w'=>e = .returned (.bool true) /\ w' = w):=fun w=>inN 5 1 5 w;have V0:=seven_new w (.string nm) (.int .i64 5) (.int .i64 ad) (.int .u8 (pl : Int)) (.slice Ab bs.length cb) (.slice Ar nr cr) (.slice At nt ct) 56;have I1 : Hid (∀ w,Calls Tryz.prog 8 #[.int .i64 ad,.int .i64 0,.int .i64 15] w fun e w'=>e = .returned (.bool (decide (0 <= ad) && decide (ad <= 15))) /\ w' = w):=fun w=>inN ad 0 15 w;obtain ⟨_,q0,q1,q2,q3,q4,q5,q6⟩:=id V0;generalize (decide (0 <= ad) && decide (ad <= 15)) = x0 at *;cases x0
 ·go_enter Tryz.func33,Tryz.ntmps33;go_wp2_with (first | (go_at_call_of 8 (Value.int .i64 5);refine (I0.out _).mono ?_;rintro e w' ⟨rfl,rfl⟩) | (go_at_call_of 8 (Value.int .i64 ad);refine (I1.out _).mono ?_;rintro e w' ⟨rfl,rfl⟩));go_ret;first | exact ⟨rfl,D0⟩ | exact ⟨by simp,D0⟩
 cases p0 : decide (0 < pl)
 ·have p1 : decide ((0 : Int) < (pl : Int)) = false:=by rw [<- p0];simp
  by_cases n3 : 3 < bs.length
  ·have u3 : decide ((3 : Int) < (bs.length : Int)) = true:=by simp;omega
   go_enter Tryz.func33,Tryz.ntmps33;go_wp2_with (first | (go_at_call_of 8 (Value.int .i64 5);refine (I0.out _).mono ?_;rintro e w' ⟨rfl,rfl⟩) | (go_at_call_of 8 (Value.int .i64 ad);refine (I1.out _).mono ?_;rintro e w' ⟨rfl,rfl⟩));go_ret;first | exact ⟨rfl,D0⟩ | exact ⟨by simp,D0⟩
  have u3 : decide ((3 : Int) < (bs.length : Int)) = false:=by simp;omega
  by_cases n0 : bs.length = 0
  ·have e:=List.length_eq_zero_iff.1 n0;subst e;clear n0 n3 u3;go_enter Tryz.func33,Tryz.ntmps33;go_wp2_with (first | (go_at_call_of 8 (Value.int .i64 5);refine (I0.out _).mono ?_;rintro e w' ⟨rfl,rfl⟩) | (go_at_call_of 8 (Value.int .i64 ad);refine (I1.out _).mono ?_;rintro e w' ⟨rfl,rfl⟩));go_ret;first | exact ⟨rfl,D0⟩ | exact ⟨by simp,D0⟩
  have u0 : ((bs.length : Int) == 0) = false:=by simp;exact fun e=>n0 (by rw [e];rfl)
  have FIN : Hid ((if (!true) || (false != false) then (1 : Int) else if 3 < bs.length then 2 else if bs.length = 0 then 1 else if backsFrom bs ad 0 = 1 then 1 else if (decide (0 < nr)) || (decide (0 < nt)) then 1 else c) = if backsFrom bs ad 0 = 1 then 1 else if (decide (0 < nr)) || (decide (0 < nt)) then 1 else c):=by
   show _ = _;rw [if_neg (by simp),if_neg n3,if_neg n0]
  rw [FIN.out];clear FIN n3 n0;generalize hres : (if backsFrom bs ad 0 = 1 then (1 : Int) else if (decide (0 < nr)) || (decide (0 < nt)) then 1 else c) = res;have HR : Hid (res = if backsFrom bs ad 0 = 1 then (1 : Int) else if (decide (0 < nr)) || (decide (0 < nt)) then 1 else c):=hres.symm;clear hres;go_enter Tryz.func33,Tryz.ntmps33;go_wp2_with (first | (go_at_call_of 8 (Value.int .i64 5);refine (I0.out _).mono ?_;rintro e w' ⟨rfl,rfl⟩) | (go_at_call_of 8 (Value.int .i64 ad);refine (I1.out _).mono ?_;rintro e w' ⟨rfl,rfl⟩));clear I0 I1;go_loopw [4] (fun i wr=>∃ k : Nat,i = .int .i64 (k : Int) /\ k <= bs.length /\ Below w.heap.size w wr /\ Seven wr w.heap.size (.string nm) (.int .i64 5) (.int .i64 ad) (.int .u8 (pl : Int)) (.slice Ab bs.length cb) (.slice Ar nr cr) (.slice At nt ct) /\ Hid (backsFrom bs ad 0 = backsFrom bs ad k)) (fun i _=>bs.length - (intOf i).toNat)
  case atStart=>exact ⟨0,rfl,by omega,D0,V0,rfl⟩
  case round =>
   clear D0 V0 q0 q1 q2 q3 q4 q5 q6;obtain ⟨k,rfl,hk,D1,V1,hl⟩:=hrel;obtain ⟨lV,q0,q1,q2,q3,q4,q5,q6⟩:=id V1;by_cases hlt : k < bs.length
   ·obtain ⟨x,hxk⟩ : ∃ x,bs[k]? = some x:=⟨_,List.getElem?_eq_getElem hlt⟩;obtain ⟨b,o,rfl,hb,hcell⟩:=Ints.at (SlAt.below hB.out D1 (fun _ _ _ h=>h)) hxk;have cx:=hcell k x hxk;have IX : Hid (∀ w,Calls Tryz.prog 8 #[.int .i64 x,.int .i64 0,.int .i64 15] w fun e w'=>e = .returned (.bool (decide (0 <= x) && decide (x <= 15))) /\ w' = w):=fun w=>inN x 0 15 w;have Hd : Hid (backsFrom bs ad k = if (decide (0 <= x) && decide (x <= 15)) && !(x == ad) && !((bs.take k).any (fun y=>y == x)) then backsFrom bs ad (k + 1) else 1):=backsFrom_at hxk;have k1 : (0 : Int) <= (k : Int):=by omega
    have k2 : (k : Int) < (bs.length : Int):=by omega
    have HC : Hid (∀ j y,bs[j]? = some y -> wr.cell? ⟨b,o + j,none⟩ = some (.int .i64 y)):=hcell;have HX : Hid (bs[k]? = some x):=hxk;clear hcell hxk;generalize (decide (0 <= x) && decide (x <= 15)) = y0 at *;cases y0
    ·have hb1 : Hid (res = 1):=by show _ = _;rw [HR.out,hl.out,Hd.out];simp
     clear HR Hd hl;go_wp2_with fail
     go_quiet ((go_at_call 8;exact Calls.quiet_of_same (IX.out _)))
     go_wp2_with fail;go_ret;exact ⟨by rw [hb1.out];rfl,belowNN D1 _⟩
    cases y1 : (x == ad)
    ·go_wp2_with fail
     go_quiet ((go_at_call 8;exact Calls.quiet_of_same (IX.out _)))
     go_wp2_with fail;go_loopw [5] (fun i wr=>∃ j : Nat,i = .int .i64 (j : Int) /\ j <= k /\ Below w.heap.size w wr /\ Seven wr w.heap.size (.string nm) (.int .i64 5) (.int .i64 ad) (.int .u8 (pl : Int)) (.slice (some ⟨b,o,none⟩) bs.length cb) (.slice Ar nr cr) (.slice At nt ct) /\ Hid ((bs.take j).any (fun y=>y == x) = false)) (fun i _=>k - (intOf i).toNat)
     case atStart=>exact ⟨0,rfl,by omega,belowNN D1 _,V1.below (belowNN (Below.refl wr.heap.size wr) _) lV,rfl⟩
     case round =>
      clear D1 V1 q0 q1 q2 q3 q4 q5 q6 cx HC lV;obtain ⟨j,rfl,hj,D1,V1,hno⟩:=hrel;obtain ⟨lV,q0,q1,q2,q3,q4,q5,q6⟩:=id V1;by_cases hjk : j < k
      ·obtain ⟨y,hyj⟩ : ∃ y,bs[j]? = some y:=⟨_,List.getElem?_eq_getElem (by omega)⟩;obtain ⟨b',o',e',_,hcell⟩:=Ints.at (SlAt.below hB.out D1 (fun _ _ _ h=>h)) hyj;cases e';have cx:=hcell k x HX.out;have cy:=hcell j y hyj;have j1 : (0 : Int) <= (j : Int):=by omega
       have j2 : (j : Int) < (bs.length : Int):=by omega
       cases z0 : (y == x)
       ·have Hn : Hid ((bs.take (j + 1)).any (fun z=>z == x) = false):=by show _ = _;rw [any_takeI hyj,hno.out,z0];rfl
        clear hcell hyj hno;go_wp2_with fail
        go_quiet (fail)
        go_wp2_with fail;go_roundw
        case rel=>exact ⟨j + 1,by go_num,by omega,belowNN D1 _,V1.below (belowNN (Below.refl wr.heap.size wr) _) lV,Hn⟩
        case measure=>simp [intOf];omega
       ·have hany : (bs.take k).any (fun z=>z == x) = true:=List.any_eq_true.2 ⟨y,List.mem_of_getElem? (i:=j) (by rw [List.getElem?_take,if_pos hjk];exact hyj),z0⟩;have hb1 : Hid (res = 1):=by show _ = _;rw [HR.out,hl.out,Hd.out,y1,hany];simp
        clear HR Hd hl hcell hyj hno hany;go_wp2_with fail
        go_quiet (fail)
        go_wp2_with fail;go_ret;exact ⟨by rw [hb1.out];rfl,belowNN D1 _⟩
      ·obtain rfl : j = k:=by omega
       have Hn : Hid (backsFrom bs ad 0 = backsFrom bs ad (j + 1)):=by show _ = _;rw [hl.out,Hd.out,y1,hno.out];simp
       clear hl Hd hno;go_wp2_with fail;go_roundw
       case rel=>exact ⟨j + 1,by go_num,by omega,D1,V1,Hn⟩
       case measure=>simp [intOf];omega
    ·have hb1 : Hid (res = 1):=by show _ = _;rw [HR.out,hl.out,Hd.out,y1];simp
     clear HR Hd hl;go_wp2_with fail
     go_quiet ((go_at_call 8;exact Calls.quiet_of_same (IX.out _)))
     go_wp2_with fail;go_ret;exact ⟨by rw [hb1.out];rfl,belowNN D1 _⟩
   ·have h0 : backsFrom bs ad 0 = 0:=by rw [hl.out,backsFrom_end (by omega)]
    clear hl;by_cases r0 : 0 < nr
    ·have v0 : decide ((0 : Int) < (nr : Int)) = true:=by simp;omega
     have hb1 : Hid (res = 1):=by show _ = _;rw [HR.out,h0];simp [r0]
     clear HR h0;go_wp2_with fail;go_ret;exact ⟨by rw [hb1.out];rfl,D1⟩
    have v0 : decide ((0 : Int) < (nr : Int)) = false:=by simp;omega
    by_cases t0 : 0 < nt
    ·have z0 : decide ((0 : Int) < (nt : Int)) = true:=by simp;omega
     have hb1 : Hid (res = 1):=by show _ = _;rw [HR.out,h0];simp [t0]
     clear HR h0;go_wp2_with fail;go_ret;exact ⟨by rw [hb1.out];rfl,D1⟩
    have z0 : decide ((0 : Int) < (nt : Int)) = false:=by simp;omega
    have r8 : ¬ 8 < nr:=by omega
    have v8 : decide ((8 : Int) < (nr : Int)) = false:=by simp;omega
    have hb1 : Hid (res = c):=by show _ = _;rw [HR.out,h0];simp [r0,t0]
    clear HR h0;go_wp2_with fail;refine (RT.out _ D1).mono ?_;rintro e w2 ⟨rfl,hb2⟩;have D2:=chnN hb2 D1;go_wp2_with fail;go_ret;exact ⟨by rw [hb1.out];rfl,D2⟩
 ·have p1 : decide ((0 : Int) < (pl : Int)) = true:=by rw [<- p0];simp
  go_enter Tryz.func33,Tryz.ntmps33;go_wp2_with (first | (go_at_call_of 8 (Value.int .i64 5);refine (I0.out _).mono ?_;rintro e w' ⟨rfl,rfl⟩) | (go_at_call_of 8 (Value.int .i64 ad);refine (I1.out _).mono ?_;rintro e w' ⟨rfl,rfl⟩));go_ret;first | exact ⟨rfl,D0⟩ | exact ⟨by simp,D0⟩
theorem rdev_none (nm : ByteArray) (k ad : Int) (pl : Nat) (vb vr vt : Value) (w : World) (h : ¬ (1 <= k /\ k <= 5)) :
  Calls Tryz.prog 33 #[.agg #[.string nm,.int .i64 k,.int .i64 ad,.int .u8 (pl : Int),vb,vr,vt]] w fun e w'=>e = .returned (.int .i64 1) /\ Below w.heap.size w w':=by
 have D0:=Below.alN (Below.refl w.heap.size w) (.cells #[.string nm,.int .i64 k,.int .i64 ad,.int .u8 (pl : Int),vb,vr,vt] 56);have I0 : Hid (∀ w,Calls Tryz.prog 8 #[.int .i64 k,.int .i64 1,.int .i64 5] w fun e w'=>e = .returned (.bool false) /\ w' = w):=fun w=>by
  have:=inN k 1 5 w;rw [show (decide (1 <= k) && decide (k <= 5)) = false by
   rw [Bool.eq_false_iff];simp only [ne_eq,Bool.and_eq_true,decide_eq_true_eq];exact h] at this
  exact this
 clear h;go_enter Tryz.func33,Tryz.ntmps33;go_wp2_with (go_at_call 8;refine (I0.out _).mono ?_;rintro e w' ⟨rfl,rfl⟩);go_ret;exact ⟨rfl,D0⟩
theorem rdevice_any (d : Dv) (vb vr vt : Value) (c : Int) (w : World) (hb : SlAt w.heap.size w 1 IsI vb d.backs) (hr : SlAt w.heap.size w 5 IsRule vr d.rules) (ht : SlAt w.heap.size w 3 IsRoute vt d.routes)
  (RT : Hid (∀ W,Below w.heap.size w W -> Calls Tryz.prog 71 #[vt] W fun e w'=>e = .returned (.int .i64 c) /\ Below W.heap.size W w')) :
  Calls Tryz.prog 33 #[.agg #[.string d.name,.int .i64 d.kind,.int .i64 d.addr,.int .u8 (d.pool : Int),vb,vr,vt]] w fun e w'=>e = .returned (.int .i64 (devV d.kind d.addr d.pool d.backs d.rules.length d.routes.length c)) /\ Below w.heap.size w w':=by
 obtain ⟨nm,k,ad,pl,bs,rs,ts,_,_⟩:=d;simp only at hb hr ht ⊢;have hb0:=hb;obtain ⟨Ab,cb,rfl,_,b1,b2,_⟩:=hb;obtain ⟨Ar,cr,rfl,_,_,_,_⟩:=hr;obtain ⟨At,ct,rfl,_,_,_,_⟩:=ht;by_cases hk : 1 <= k /\ k <= 5
 ·have e0 : (decide (1 <= k) && decide (k <= 5)) = true:=by simp [hk]
  have hkk : k = 1 ∨ k = 2 ∨ k = 3 ∨ k = 4 ∨ k = 5:=by omega
  have nil : bs.length = 0 -> backsFrom bs ad 0 = 0:=fun h=>backsFrom_end (by omega);rcases hkk with rfl | rfl | rfl | rfl | rfl
  ·refine (rdev_1 nm ad pl Ab Ar At bs.length cb rs.length cr ts.length ct c w RT).mono fun e w' ⟨e1,e2⟩=>⟨?_,e2⟩;rw [e1]
   congr 2
   unfold devV hasAddr;by_cases n0 : bs.length = 0
   ·simp [n0,nil n0]
   ·simp [n0,Nat.pos_of_ne_zero n0]
  ·refine (rdev_2 nm ad pl Ab Ar At bs.length cb rs.length cr ts.length ct c w RT).mono fun e w' ⟨e1,e2⟩=>⟨?_,e2⟩;rw [e1]
   congr 2
   unfold devV hasAddr;by_cases n0 : bs.length = 0
   ·simp [n0,nil n0]
   ·simp [n0,Nat.pos_of_ne_zero n0]
  ·refine (rdev_3 nm ad pl Ab Ar At bs.length cb rs.length cr ts.length ct c w RT).mono fun e w' ⟨e1,e2⟩=>⟨?_,e2⟩;rw [e1]
   congr 2
   unfold devV hasAddr;by_cases n0 : bs.length = 0
   ·simp [n0,nil n0]
   ·simp [n0,Nat.pos_of_ne_zero n0]
  ·refine (rdev_4 nm ad pl Ab Ar At bs.length cb rs.length cr ts.length ct c w RT).mono fun e w' ⟨e1,e2⟩=>⟨?_,e2⟩;rw [e1]
   congr 2
   unfold devV hasAddr;by_cases n0 : bs.length = 0
   ·simp [n0,nil n0]
   ·simp [n0,Nat.pos_of_ne_zero n0]
  ·refine (rdev_5 nm ad pl Ab Ar At bs cb rs.length cr ts.length ct c w b1 b2 hb0 RT).mono fun e w' ⟨e1,e2⟩=>⟨?_,e2⟩;rw [e1]
   congr 2
   unfold devV hasAddr;by_cases r8 : 8 < rs.length
   ·simp [Nat.lt_trans (show 0 < 8 by omega) r8]
   ·simp [r8]
 ·refine (rdev_none nm k ad pl _ _ _ w hk).mono fun e w' ⟨e1,e2⟩=>⟨?_,e2⟩;rw [e1];unfold devV;rw [if_pos];rw [Bool.not_eq_true',Bool.eq_false_iff];simp only [ne_eq,Bool.and_eq_true,decide_eq_true_eq];exact hk
end Go.Proofs.YtppbfikimalojaaGreat
