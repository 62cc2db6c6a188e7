/-
  XAR.
-/
import Derived.Test.YtppbfikimalojaaGreatXAQ
import Derived.Test.YtppbfikimalojaaGreatXAM
import Derived.ProofKit
import Derived.WalkKit
import Derived.Maps.AppendAt
import Derived.Deep.Heap
import Derived.OneCell
import Derived.Laws.AppendOwnNone
import Derived.Deep.RegionHeldLaw
import Derived.Test.YtppbfikimalojaaGreatXAO
import Derived.Test.YtppbfikimalojaaGreatXLy
set_option maxHeartbeats 8000000
set_option maxRecDepth 100000
namespace Go.Proofs.YtppbfikimalojaaGreat
open Go.RowKit Go.Maps
def oneN : Int -> Nat -> PutS:=fun _ _ _ _=>False
theorem oneN_un {Q : PutS} {q : Int} {c : Nat} : un Q (oneN q c) = Q:=un_no fun _ _ h=>h
theorem sumN {Q : PutS} {n : Int} : un Q (sumP n oneN) = Q:=un_no fun _ _ ⟨_,_,_,_,_,h⟩=>h
theorem dev5_any (V : Boxes -> PutS -> World -> Prop) (d : Dv) (i : Nat) (ls : List Lk) (T : Tab) (k : Int) (S nb sb kb mb b o n cap cl : Nat) (L : Option Addr) (cap' : Nat) (vb vr vt : Value) (Q0 : PutS) (w : World) (hi : (i : Int) < (n : Int)) (hk : d.kind = 5)
  (H : Hid (DV V d i ls T k S nb sb kb mb (.agg #[.slice (some ⟨b,o,none⟩) n cap,.slice L cl cap']) vr vt)) (V0 : V [] Q0 w)
  (HD : Hid (∀ bx Q W,V bx Q W -> W.cell? ⟨b,o + i * 7,none⟩ = some (.string d.name) /\ W.cell? ⟨b,o + i * 7 + 1,none⟩ = some (.int .i64 d.kind) /\ W.cell? ⟨b,o + i * 7 + 2,none⟩ = some (.int .i64 d.addr) /\ W.cell? ⟨b,o + i * 7 + 3,none⟩ = some (.int .u8 (d.pool : Int)) /\ W.cell? ⟨b,o + i * 7 + 4,none⟩ = some vb /\ W.cell? ⟨b,o + i * 7 + 5,none⟩ = some vr /\ W.cell? ⟨b,o + i * 7 + 6,none⟩ = some vt))
  (hv : (∃ A n c,vb = .slice A n c) /\ (∃ A n c,vr = .slice A n c) /\ ∃ A n c,vt = .slice A n c)
  (ha : 0 <= d.addr /\ d.addr < 16) (hbs : ∀ b ∈ d.backs,0 <= b /\ b < 16) (hl3 : d.backs.length <= 3) (HB : Hid (∀ bx Q W,V bx Q W -> SlAt W.heap.size W 1 IsI vb d.backs)) :
  Calls Tryz.prog 38 #[.pointer (some ⟨S,0,none⟩),.agg #[.slice (some ⟨b,o,none⟩) n cap,.slice L cl cap'],.int .i64 (i : Int),.int .i64 k,.func (.func 36) #[] #[.pointer (some ⟨nb,0,none⟩),.pointer (some ⟨sb,0,none⟩),.pointer (some ⟨kb,0,none⟩),.pointer (some ⟨mb,0,none⟩)]] w fun e w'=>e = .returned (.tuple #[]) /\ V [] (un Q0 (sumP ((2 : Nat) : Int) (one5 d (i : Int) ls T k))) w':=by
 obtain ⟨⟨Ab,nbb,cb,rfl⟩,⟨Ar,nr,cr,rfl⟩,⟨At,nt,ct,rfl⟩⟩:=hv;obtain rfl : nbb = d.backs.length:=by
  obtain ⟨_,_,e,_⟩:=HB.out _ _ _ V0;cases e;rfl
 have i0 : (0 : Int) <= (i : Int):=by omega
 have PO : Hid (∀ W : World,Calls Tryz.prog 19 #[.int .i64 5] W fun e w'=>e = .returned (.int .i64 2) /\ Below W.heap.size W w'):=fun W=>rports_any 5 W;have PK : Hid (∀ (c : Nat) (W : World),c < 16384 -> Calls Tryz.prog 21 #[.int .i64 (c : Int)] W fun e w'=>e = .returned (pkV (pkN c)) /\ Below W.heap.size W w'):=fun c W hc=>rpacket_any c W hc;have V1:=H.out.new V0 #[.slice (some ⟨b,o,none⟩) n cap,.slice L cl cap'] 25;obtain ⟨c0,c1,c2,c3,c4,c5,c6⟩:=HD.out _ _ _ V1;rw [hk] at c1;have N1:=(bk_new w #[.slice (some ⟨b,o,none⟩) n cap,.slice L cl cap'] 25);obtain ⟨n1,n2⟩:=N1.two;clear V0 HD N1;go_enter Tryz.func38,Tryz.ntmps38;go_upto_region 2 with fail;have V2:=H.out.new V1 #[.string d.name,.int .i64 5,.int .i64 d.addr,.int .u8 (d.pool : Int),.slice Ab d.backs.length cb,.slice Ar nr cr,.slice At nt ct] 56;rw [World.size_alloc] at V2;clear V1 c0 c1 c2 c3 c4 c5 c6 n1 n2;generalize (w.alloc (.cells #[.slice (some ⟨b,o,none⟩) n cap,.slice L cl cap'] 25)).alloc (.cells #[.string d.name,.int .i64 5,.int .i64 d.addr,.int .u8 (d.pool : Int),.slice Ab d.backs.length cb,.slice Ar nr cr,.slice At nt ct] 56) = w2 at *;generalize w.heap.size = y at *;obtain ⟨n1,n2⟩:=(H.out.get V2 (_,_,_) (List.mem_cons_of_mem _ List.mem_cons_self)).two;have PE:=H.out.peer V2 1;obtain ⟨p1,p2,hpl⟩ : ∃ p1 p2 : Int,placeV (peerF ls i 1) = .agg #[.int .i64 p1,.int .i64 p2]:=by cases peerF ls i 1 <;> exact ⟨_,_,rfl⟩
 rw [hpl] at PE;obtain ⟨op,hop⟩ : ∃ op,Hid ((peerF ls (i : Int) 1).isSome = op):=⟨_,rfl⟩;rw [hop.out] at PE;clear hpl;go_wp2_with fail;refine PE.mono ?_;rintro e w3 ⟨rfl,V3⟩;clear PE V2 n1 n2;have V4:=H.out.new V3 #[.int .i64 p1,.int .i64 p2] 27;clear V3;go_upto_region 3 with fail;generalize w3.alloc (.cells #[.int .i64 p1,.int .i64 p2] 27) = w4 at *;generalize w3.heap.size = z at *;obtain ⟨BX,hBX⟩ : ∃ BX : Boxes,BX = [(z,#[.int .i64 p1,.int .i64 p2],27),(y + 1,#[.string d.name,.int .i64 5,.int .i64 d.addr,.int .u8 (d.pool : Int),.slice Ab d.backs.length cb,.slice Ar nr cr,.slice At nt ct],56),(y,#[.slice (some ⟨b,o,none⟩) n cap,.slice L cl cap'],25)]:=⟨_,rfl⟩;rw [<- hBX] at V4;have BD : Hid (∀ {Q : PutS} {W : World},V BX Q W -> W.cell? ⟨y + 1,0,none⟩ = some (.string d.name) /\ W.cell? ⟨y + 1,1,none⟩ = some (.int .i64 5) /\ W.cell? ⟨y + 1,2,none⟩ = some (.int .i64 d.addr) /\ W.cell? ⟨y + 1,3,none⟩ = some (.int .u8 (d.pool : Int)) /\ W.cell? ⟨y + 1,4,none⟩ = some (.slice Ab d.backs.length cb) /\ W.cell? ⟨y + 1,5,none⟩ = some (.slice Ar nr cr) /\ W.cell? ⟨y + 1,6,none⟩ = some (.slice At nt ct)):=fun {Q W} hv=>by
  rw [hBX] at hv;have B:=H.out.get hv (_,_,_) (List.mem_cons_of_mem _ List.mem_cons_self);exact ⟨B.at 0,B.at 1,B.at 2,B.at 3,B.at 4,B.at 5,B.at 6⟩
 have GP : Hid (∀ {x : Nat} {s0 s1 s2 s3 : Int} {bx : Boxes} {Q : PutS} {W : World},V ((x,#[.int .i64 s0,.int .i64 s1,.int .i64 s2,.int .i64 s3],29) :: bx) Q W -> W.cell? ⟨x,0,none⟩ = some (.int .i64 s0) /\ W.cell? ⟨x,1,none⟩ = some (.int .i64 s1) /\ W.cell? ⟨x,2,none⟩ = some (.int .i64 s2) /\ W.cell? ⟨x,3,none⟩ = some (.int .i64 s3)):=fun {x s0 s1 s2 s3 bx Q W} hv=>by
  obtain ⟨a0,a1,a2,a3,_⟩:=(H.out.get hv (_,_,_) List.mem_cons_self).four;exact ⟨a0,a1,a2,a3⟩
 have BT : Hid (∀ {y' : Nat × Array Value × TypeId} {Q : PutS} {W : World},V (y' :: BX) Q W -> V BX Q W):=fun {y' Q W} hv=>H.out.less hv (fun y hy=>List.mem_cons_of_mem _ hy);obtain ⟨_,d1,_⟩:=BD.out V4;go_wp2_with fail;go_loopw [14] (fun s wr=>s = .int .i64 0 /\ V BX Q0 wr) (fun _ _=>0)
 case atStart=>exact ⟨rfl,V4⟩
 case round =>
  clear V4 d1;obtain ⟨rfl,V5⟩:=hrel;obtain ⟨_,d1,_⟩:=BD.out V5;go_wp2_with fail;go_loopw [17] (fun s wr=>∃ q : Nat,s = .int .i64 (q : Int) /\ q <= 2 /\ V BX (un Q0 (partQ (one5 d (i : Int) ls T k) q 0)) wr) (fun s _=>2 - (intOf s).toNat)
  case atStart=>exact ⟨0,rfl,by omega,by rw [un_start];exact V5⟩
  case round =>
   clear V5 d1;obtain ⟨q,rfl,hq,V6⟩:=hrel;obtain ⟨_,d1,_⟩:=BD.out V6;go_wp2_with fail;refine (PO.out _).mono ?_;rintro e w6 ⟨rfl,hb6⟩;have V7:=H.out.below V6 hb6;clear V6 hb6 d1;by_cases hqP : q < 2
   rotate_left
   ·obtain rfl : q = 2:=by omega
    have V8:=H.out.less V7 (bx':=[]) (fun y hy=>by cases hy);rw [un_end] at V8;clear V7;go_wp2_with fail
    go_returns
    exact ⟨rfl,V8⟩
   have q1 : (q : Int) < 2:=by omega
   go_wp2_with fail;go_loopw [18] (fun s wr=>∃ c : Nat,s = .int .i64 (c : Int) /\ c <= 16384 /\ V BX (un Q0 (partQ (one5 d (i : Int) ls T k) q c)) wr) (fun s _=>16384 - (intOf s).toNat)
   case atStart=>exact ⟨0,rfl,by omega,V7⟩
   case round =>
    clear V7;obtain ⟨c,rfl,hc,V8⟩:=hrel;by_cases hlt : c < 16384
    rotate_left
    ·obtain rfl : c = 16384:=by omega
     rw [un_row] at V8;go_wp2_with fail;go_roundw
     case rel=>exact ⟨q + 1,by go_num,by omega,V8⟩
     case measure=>simp [intOf];omega
    have c1 : (c : Int) < 16384:=by omega
    have WA:=H.out.was V8 (q : Int) c (by omega) (by rw [hk];show (q : Int) < 2;omega) hlt;have ST : Hid (∀ W,V BX (un (un Q0 (partQ (one5 d (i : Int) ls T k) q c)) ((one5 d (i : Int) ls T k) (q : Int) c)) W -> V BX (un Q0 (partQ (one5 d (i : Int) ls T k) q (c + 1))) W):=fun W h=>by rw [un_step hlt] at h;exact h
    generalize un Q0 (partQ (one5 d (i : Int) ls T k) q c) = Qc at *;cases hw : wasB T k ((i : Int),(q : Int)) c with
    | false =>
      rw [hw] at WA;have V9 : V BX (un Qc ((one5 d (i : Int) ls T k) (q : Int) c)) wr:=by
       rw [one5_was hw];exact V8
      clear hw;go_wp2_with fail;refine WA.mono ?_;rintro e w' ⟨rfl,rfl⟩;clear WA;go_wp2_with fail;go_roundw
      case rel=>exact ⟨c + 1,by go_num,by omega,ST.out _ V9⟩
      case measure=>simp [intOf];omega
    | true =>
      rw [hw] at WA;go_wp2_with fail;refine WA.mono ?_;rintro e w' ⟨rfl,rfl⟩;clear WA;go_wp2_with fail;refine (PK.out c _ hlt).mono ?_;rintro e w9 ⟨rfl,hb9⟩;have V9:=H.out.below V8 hb9;have VA:=H.out.new V9 #[.int .i64 (pkN c).s,.int .i64 (pkN c).d,.int .i64 (pkN c).sp,.int .i64 (pkN c).dp] 29;clear V8 V9 hb9;go_upto_region 22 with fail;generalize w9.alloc (.cells #[.int .i64 (pkN c).s,.int .i64 (pkN c).d,.int .i64 (pkN c).sp,.int .i64 (pkN c).dp] 29) = wa at *;generalize w9.heap.size = u at *;have hpc:=pkN_ok hlt;obtain ⟨d0,d1,d2,d3,d4,d5,d6⟩:=BD.out (BT.out VA);obtain ⟨x0,x1,x2,x3⟩:=GP.out VA;have BAL : Hid (∀ {bx : Boxes} {Q : PutS} {W : World},V bx Q W -> Calls Tryz.prog 78 #[.pointer (some ⟨S,0,none⟩),.agg #[.string d.name,.int .i64 5,.int .i64 d.addr,.int .u8 (d.pool : Int),.slice Ab d.backs.length cb,.slice Ar nr cr,.slice At nt ct],.int .i64 (i : Int),.int .i64 (q : Int),.int .i64 k,pkV (pkN c),.bool op,.func (.func 36) #[] #[.pointer (some ⟨nb,0,none⟩),.pointer (some ⟨sb,0,none⟩),.pointer (some ⟨kb,0,none⟩),.pointer (some ⟨mb,0,none⟩)]] W fun e w'=>e = .returned (.tuple #[]) /\ V bx (un Q (one5 d (i : Int) ls T k (q : Int) c)) w'):=fun {bx Q W} hv=>by
       obtain hqe | hqe : (q : Int) = 0 ∨ (q : Int) = 1:=by omega
       ·rw [hqe] at hw ⊢;exact bal0_any V d i ls T k S nb sb kb mb _ _ _ Ab cb bx Q W c op hlt H hv hbs hl3 HB hw
       ·rw [hqe] at hw ⊢;exact bal1_any V d i ls T k S nb sb kb mb _ _ _ Ab cb bx Q W c op hlt ha hk H hv hop.out HB hw
      clear hw;generalize one5 d (i : Int) ls T k (q : Int) c = R at *;generalize pkN c = pc at *;obtain ⟨a,b',c',e'⟩:=pc;dsimp only at *;go_wp2_with fail;refine (BAL.out VA).mono ?_;rintro e wb ⟨rfl,VZ⟩;clear BAL VA d0 d1 d2 d3 d4 d5 d6 x0 x1 x2 x3;go_wp2_with fail;go_roundw
      case rel=>exact ⟨c + 1,by go_num,by omega,ST.out _ (H.out.less VZ (fun y hy=>List.mem_cons_of_mem _ hy))⟩
      case measure=>simp [intOf];omega
theorem devN_any (V : Boxes -> PutS -> World -> Prop) (d : Dv) (i : Nat) (ls : List Lk) (T : Tab) (k : Int) (S nb sb kb mb b o n cap cl : Nat) (L : Option Addr) (cap' : Nat) (vb vr vt : Value) (Q0 : PutS) (w : World) (hi : (i : Int) < (n : Int)) (P : Nat) (hP1 : P <= 4) (hP : Hid (portsV d.kind = (P : Int))) (f2 : (d.kind == 2) = false) (f3 : (d.kind == 3) = false) (f4 : (d.kind == 4) = false) (f5 : (d.kind == 5) = false)
  (H : Hid (DV V d i ls T k S nb sb kb mb (.agg #[.slice (some ⟨b,o,none⟩) n cap,.slice L cl cap']) vr vt)) (V0 : V [] Q0 w)
  (HD : Hid (∀ bx Q W,V bx Q W -> W.cell? ⟨b,o + i * 7,none⟩ = some (.string d.name) /\ W.cell? ⟨b,o + i * 7 + 1,none⟩ = some (.int .i64 d.kind) /\ W.cell? ⟨b,o + i * 7 + 2,none⟩ = some (.int .i64 d.addr) /\ W.cell? ⟨b,o + i * 7 + 3,none⟩ = some (.int .u8 (d.pool : Int)) /\ W.cell? ⟨b,o + i * 7 + 4,none⟩ = some vb /\ W.cell? ⟨b,o + i * 7 + 5,none⟩ = some vr /\ W.cell? ⟨b,o + i * 7 + 6,none⟩ = some vt))
  (hv : (∃ A n c,vb = .slice A n c) /\ (∃ A n c,vr = .slice A n c) /\ ∃ A n c,vt = .slice A n c) :
  Calls Tryz.prog 38 #[.pointer (some ⟨S,0,none⟩),.agg #[.slice (some ⟨b,o,none⟩) n cap,.slice L cl cap'],.int .i64 (i : Int),.int .i64 k,.func (.func 36) #[] #[.pointer (some ⟨nb,0,none⟩),.pointer (some ⟨sb,0,none⟩),.pointer (some ⟨kb,0,none⟩),.pointer (some ⟨mb,0,none⟩)]] w fun e w'=>e = .returned (.tuple #[]) /\ V [] Q0 w':=by
 obtain ⟨⟨Ab,nbb,cb,rfl⟩,⟨Ar,nr,cr,rfl⟩,⟨At,nt,ct,rfl⟩⟩:=hv;have i0 : (0 : Int) <= (i : Int):=by omega
 have PO : Hid (∀ W : World,Calls Tryz.prog 19 #[.int .i64 d.kind] W fun e w'=>e = .returned (.int .i64 (P : Int)) /\ Below W.heap.size W w'):=fun W=>by have:=rports_any d.kind W;rw [hP.out] at this;exact this
 have PK : Hid (∀ (c : Nat) (W : World),c < 16384 -> Calls Tryz.prog 21 #[.int .i64 (c : Int)] W fun e w'=>e = .returned (pkV (pkN c)) /\ Below W.heap.size W w'):=fun c W hc=>rpacket_any c W hc;have V1:=H.out.new V0 #[.slice (some ⟨b,o,none⟩) n cap,.slice L cl cap'] 25;obtain ⟨c0,c1,c2,c3,c4,c5,c6⟩:=HD.out _ _ _ V1;skip
 have N1:=(bk_new w #[.slice (some ⟨b,o,none⟩) n cap,.slice L cl cap'] 25);obtain ⟨n1,n2⟩:=N1.two;clear V0 HD N1;go_enter Tryz.func38,Tryz.ntmps38;go_upto_region 2 with fail;have V2:=H.out.new V1 #[.string d.name,.int .i64 d.kind,.int .i64 d.addr,.int .u8 (d.pool : Int),.slice Ab nbb cb,.slice Ar nr cr,.slice At nt ct] 56;rw [World.size_alloc] at V2;clear V1 c0 c1 c2 c3 c4 c5 c6 n1 n2;generalize (w.alloc (.cells #[.slice (some ⟨b,o,none⟩) n cap,.slice L cl cap'] 25)).alloc (.cells #[.string d.name,.int .i64 d.kind,.int .i64 d.addr,.int .u8 (d.pool : Int),.slice Ab nbb cb,.slice Ar nr cr,.slice At nt ct] 56) = w2 at *;generalize w.heap.size = y at *;obtain ⟨n1,n2⟩:=(H.out.get V2 (_,_,_) (List.mem_cons_of_mem _ List.mem_cons_self)).two;have PE:=H.out.peer V2 1;obtain ⟨p1,p2,hpl⟩ : ∃ p1 p2 : Int,placeV (peerF ls i 1) = .agg #[.int .i64 p1,.int .i64 p2]:=by cases peerF ls i 1 <;> exact ⟨_,_,rfl⟩
 rw [hpl] at PE;obtain ⟨op,hop⟩ : ∃ op,Hid ((peerF ls (i : Int) 1).isSome = op):=⟨_,rfl⟩;rw [hop.out] at PE;clear hpl;go_wp2_with fail;refine PE.mono ?_;rintro e w3 ⟨rfl,V3⟩;clear PE V2 n1 n2;have V4:=H.out.new V3 #[.int .i64 p1,.int .i64 p2] 27;clear V3;go_upto_region 3 with fail;generalize w3.alloc (.cells #[.int .i64 p1,.int .i64 p2] 27) = w4 at *;generalize w3.heap.size = z at *;obtain ⟨BX,hBX⟩ : ∃ BX : Boxes,BX = [(z,#[.int .i64 p1,.int .i64 p2],27),(y + 1,#[.string d.name,.int .i64 d.kind,.int .i64 d.addr,.int .u8 (d.pool : Int),.slice Ab nbb cb,.slice Ar nr cr,.slice At nt ct],56),(y,#[.slice (some ⟨b,o,none⟩) n cap,.slice L cl cap'],25)]:=⟨_,rfl⟩;rw [<- hBX] at V4;have BD : Hid (∀ {Q : PutS} {W : World},V BX Q W -> W.cell? ⟨y + 1,0,none⟩ = some (.string d.name) /\ W.cell? ⟨y + 1,1,none⟩ = some (.int .i64 d.kind) /\ W.cell? ⟨y + 1,2,none⟩ = some (.int .i64 d.addr) /\ W.cell? ⟨y + 1,3,none⟩ = some (.int .u8 (d.pool : Int)) /\ W.cell? ⟨y + 1,4,none⟩ = some (.slice Ab nbb cb) /\ W.cell? ⟨y + 1,5,none⟩ = some (.slice Ar nr cr) /\ W.cell? ⟨y + 1,6,none⟩ = some (.slice At nt ct)):=fun {Q W} hv=>by
  rw [hBX] at hv;have B:=H.out.get hv (_,_,_) (List.mem_cons_of_mem _ List.mem_cons_self);exact ⟨B.at 0,B.at 1,B.at 2,B.at 3,B.at 4,B.at 5,B.at 6⟩
 have GP : Hid (∀ {x : Nat} {s0 s1 s2 s3 : Int} {bx : Boxes} {Q : PutS} {W : World},V ((x,#[.int .i64 s0,.int .i64 s1,.int .i64 s2,.int .i64 s3],29) :: bx) Q W -> W.cell? ⟨x,0,none⟩ = some (.int .i64 s0) /\ W.cell? ⟨x,1,none⟩ = some (.int .i64 s1) /\ W.cell? ⟨x,2,none⟩ = some (.int .i64 s2) /\ W.cell? ⟨x,3,none⟩ = some (.int .i64 s3)):=fun {x s0 s1 s2 s3 bx Q W} hv=>by
  obtain ⟨a0,a1,a2,a3,_⟩:=(H.out.get hv (_,_,_) List.mem_cons_self).four;exact ⟨a0,a1,a2,a3⟩
 have BT : Hid (∀ {y' : Nat × Array Value × TypeId} {Q : PutS} {W : World},V (y' :: BX) Q W -> V BX Q W):=fun {y' Q W} hv=>H.out.less hv (fun y hy=>List.mem_cons_of_mem _ hy);obtain ⟨_,d1,_⟩:=BD.out V4;go_wp2_with fail;go_loopw [14] (fun s wr=>s = .int .i64 0 /\ V BX Q0 wr) (fun _ _=>0)
 case atStart=>exact ⟨rfl,V4⟩
 case round =>
  clear V4 d1;obtain ⟨rfl,V5⟩:=hrel;obtain ⟨_,d1,_⟩:=BD.out V5;go_wp2_with fail;go_loopw [17] (fun s wr=>∃ q : Nat,s = .int .i64 (q : Int) /\ q <= P /\ V BX (un Q0 (partQ (oneN) q 0)) wr) (fun s _=>P - (intOf s).toNat)
  case atStart=>exact ⟨0,rfl,by omega,by rw [un_start];exact V5⟩
  case round =>
   clear V5 d1;obtain ⟨q,rfl,hq,V6⟩:=hrel;obtain ⟨_,d1,_⟩:=BD.out V6;go_wp2_with fail;refine (PO.out _).mono ?_;rintro e w6 ⟨rfl,hb6⟩;have V7:=H.out.below V6 hb6;clear V6 hb6 d1;by_cases hqP : q < P
   rotate_left
   ·obtain rfl : q = P:=by omega
    have V8:=H.out.less V7 (bx':=[]) (fun y hy=>by cases hy);rw [un_end,sumN] at V8;clear V7;go_wp2_with fail
    go_returns
    exact ⟨rfl,V8⟩
   have q1 : (q : Int) < (P : Int):=by omega
   go_wp2_with fail;go_loopw [18] (fun s wr=>∃ c : Nat,s = .int .i64 (c : Int) /\ c <= 16384 /\ V BX (un Q0 (partQ (oneN) q c)) wr) (fun s _=>16384 - (intOf s).toNat)
   case atStart=>exact ⟨0,rfl,by omega,V7⟩
   case round =>
    clear V7;obtain ⟨c,rfl,hc,V8⟩:=hrel;by_cases hlt : c < 16384
    rotate_left
    ·obtain rfl : c = 16384:=by omega
     rw [un_row] at V8;go_wp2_with fail;go_roundw
     case rel=>exact ⟨q + 1,by go_num,by omega,V8⟩
     case measure=>simp [intOf];omega
    have c1 : (c : Int) < 16384:=by omega
    have WA:=H.out.was V8 (q : Int) c (by omega) (by rw [hP.out];show (q : Int) < (P : Int);omega) hlt;have ST : Hid (∀ W,V BX (un (un Q0 (partQ (oneN) q c)) ((oneN) (q : Int) c)) W -> V BX (un Q0 (partQ (oneN) q (c + 1))) W):=fun W h=>by rw [un_step hlt] at h;exact h
    generalize un Q0 (partQ (oneN) q c) = Qc at *;cases hw : wasB T k ((i : Int),(q : Int)) c with
    | false =>
      rw [hw] at WA;have V9 : V BX (un Qc ((oneN) (q : Int) c)) wr:=by
       rw [oneN_un];exact V8
      clear hw;go_wp2_with fail;refine WA.mono ?_;rintro e w' ⟨rfl,rfl⟩;clear WA;go_wp2_with fail;go_roundw
      case rel=>exact ⟨c + 1,by go_num,by omega,ST.out _ V9⟩
      case measure=>simp [intOf];omega
    | true =>
      rw [hw] at WA;go_wp2_with fail;refine WA.mono ?_;rintro e w' ⟨rfl,rfl⟩;clear WA;go_wp2_with fail;refine (PK.out c _ hlt).mono ?_;rintro e w9 ⟨rfl,hb9⟩;have V9:=H.out.below V8 hb9;have VA:=H.out.new V9 #[.int .i64 (pkN c).s,.int .i64 (pkN c).d,.int .i64 (pkN c).sp,.int .i64 (pkN c).dp] 29;clear V8 V9 hb9;go_upto_region 22 with fail;generalize w9.alloc (.cells #[.int .i64 (pkN c).s,.int .i64 (pkN c).d,.int .i64 (pkN c).sp,.int .i64 (pkN c).dp] 29) = wa at *;generalize w9.heap.size = u at *;have hpc:=pkN_ok hlt;obtain ⟨_,d1,_⟩:=BD.out (BT.out VA);have VZ : V ((u,#[.int .i64 (pkN c).s,.int .i64 (pkN c).d,.int .i64 (pkN c).sp,.int .i64 (pkN c).dp],29) :: BX) (un Qc (oneN (q : Int) c)) wa:=by rw [oneN_un];exact VA
      clear hw VA;go_wp2_with fail;go_roundw
      case rel=>exact ⟨c + 1,by go_num,by omega,ST.out _ (H.out.less VZ (fun y hy=>List.mem_cons_of_mem _ hy))⟩
      case measure=>simp [intOf];omega
structure KeptBS (w w' : World) (row : Option Nat) : Prop where
 size : w.heap.size <= w'.heap.size
 block : ∀ k,k < w.heap.size -> some k ≠ row -> w'.heap[k]? = w.heap[k]?
theorem KeptBS.of_below {w w' : World} (h : Below w.heap.size w w') : KeptBS w w' none:=⟨h.size,fun k hk _=>h.block k hk⟩
section
variable {w w' : World} {B e size n : Nat} {v : Value} {xs : List Value} {row : Option Nat}
theorem own_blockS (h : w.ownsRow B e size v n xs) {g : Nat} (hg : v.ownBlock = some g) : g < w.heap.size /\ B <= g /\ ∃ cur,w.heap[g]? = some (.cells cur e (0,0)):=by
 rcases h.2 with ⟨rfl,_⟩ | ⟨g',cap,cur,rfl,hb,hh,_⟩
 ·cases hg
 ·obtain rfl : g' = g:=by simpa [Value.ownBlock] using hg
  exact ⟨(Array.getElem?_eq_some_iff.1 hh).1,hb,cur,hh⟩
theorem own_keptS (h : w.ownsRow B e size v n xs) (hk : KeptBS w w' row) (hr : ∀ g,v.ownBlock = some g -> row ≠ some g) : w'.ownsRow B e size v n xs:=by
 refine ⟨h.1,?_⟩;rcases h.2 with k | ⟨g,cap,cur,h1,h2,h3,h4⟩
 ·exact Or.inl k
 ·refine Or.inr ⟨g,cap,cur,h1,h2,?_,h4⟩;rw [hk.block g (Array.getElem?_eq_some_iff.1 h3).1 (fun e=>hr g (by rw [h1];rfl) e.symm)];exact h3
theorem kept_setS (w : World) (g j : Nat) (u : Value) : KeptBS w (w.setCell ⟨g,j,none⟩ u) (some g):=⟨by rw [Go.Deep.nblk_setCell];exact Nat.le_refl _,fun k _ hr=>Go.Deep.blk_setCell_other w ⟨g,j,none⟩ u k (fun e=>hr (by rw [e]))⟩
end
theorem app_elS {t e : TypeId} {z : Value} {size bytes : Nat} (hu : Tryz.prog.underlying t = some (.slice e)) (hinfo : (Tryz.prog.info? e).map (fun i=>(i.zero,i.size,i.bytes)) = some (some z,size,bytes)) (hz1 : z.cells.size = size) (hs0 : 0 < size) (hby : bytes <= 320)
  {base n : Nat} {w : World} {v : Value} {xs us : List Value} (ty : TypeId) (h : w.ownsRow base e size v n xs) (hus : us.length = size) (h1 : ∀ u ∈ us,u.oneCell' = true) (hn : n <= 700000) (hb : base <= w.heap.size) :
  ∃ v' w',(Builtin.append_ #[t,t] ty #[v,.slice (some ⟨w.heap.size,0,none⟩) 1 1]).run Tryz.prog (w.alloc (.cells us.toArray e)) = .ok v' w' /\ w'.ownsRow base e size v' (n + 1) (xs ++ us) /\ Below base w w' /\ KeptBS w w' v.ownBlock /\ (v'.ownBlock = v.ownBlock ∨ ∃ g,v'.ownBlock = some g /\ w.heap.size <= g):=by
 obtain ⟨i0,hi,hz0,hz1',hz2⟩:=info_parts hinfo;have hA : Below w.heap.size w (w.alloc (.cells us.toArray e)):=(Below.refl _ _).alloc (Nat.le_refl _) _;have ho : (w.alloc (.cells us.toArray e)).ownsRow base e size v n xs:=own_keptS h (KeptBS.of_below hA) (fun g _=>by simp);obtain ⟨v',w',hr,h4,h5,_,h7⟩:=run_append_own_at (P:=Tryz.prog) (w.alloc (.cells us.toArray e)) base t ty e i0 z size bytes hu hi hz0 hz1' hz2 hz1 hs0 v n xs ho ⟨w.heap.size,0,none⟩ 1 1 us (by rw [hus,Nat.one_mul]) (fun j x hj=>by
  have hg : (w.alloc (.cells us.toArray e)).heap[w.heap.size]? = some (.cells us.toArray e):=Go.Deep.blk_alloc_new w _;rw [Addr.add_lit,Nat.zero_add];simp only [World.cell?,hg];simp [hj]) h1 (by unfold maxLen;omega) (by
   have : (n + 1) * bytes <= 700001 * 320:=Nat.mul_le_mul (by omega) hby;omega) (by simp;omega)
 have hsz : (w.alloc (.cells us.toArray e)).heap.size = w.heap.size + 1:=Go.Deep.nblk_alloc w _;refine ⟨v',w',hr,h4,?_,⟨by have:=h5.size;omega,fun k hk hne=>?_⟩,?_⟩
 ·exact ((Below.refl base w).alloc hb (.cells us.toArray e)).grown h5 (by simp;omega) (fun k e=>(ho.lt k e).1)
 ·rw [h5.block k (by omega) hne,Go.Deep.blk_alloc_lt w _ k hk]
 ·rcases h7 with h7 | h7
  ·exact Or.inl h7
  ·exact Or.inr ⟨_,h7,by omega⟩
theorem wpList_append_runS {P : Program} {w : World} {ops : Array Oper} {rest : List Oper} {o : Oper} {a : Act} {Q : Exit -> Act -> World -> Prop} (hgd : o.guard = none) (s x : Operand) (t : TypeId)
  (ho : o.op = .call { callee:=.builtin .append,args:=#[s,x],argTypes:=#[t,t] }) (v u v' : Value) (w' : World) (hs : a.eval s = v) (hx : a.eval x = u)
  (hr : (Builtin.append_ #[t,t] o.type #[v,u]).run P w = .ok v' w') (h : wpList P ops Q rest (a.put o.dst v') w') : wpList P ops Q (o :: rest) a w :=
 wpList_plain hgd fun K hK=>by
  unfold Oper.wp execOp;simp only [ho,resolve,invoke,builtin,Sem.run_bind,Sem.run_pure,Result.andThen_ok,List.map_toArray,List.map_cons,List.map_nil,hs,hx,hr];exact hK _ _ h
section
variable {d : Dv} {i : Int} {ls : List Lk} {T : Tab} {k : Int} {Q : PutS} {q : Int} {c : Nat} {os : List Pk}
theorem one4_was (h : wasB T k (i,q) c = false) : un Q (one4 d i ls T k os q c) = Q:=un_no fun _ _ ⟨h1,_⟩=>by rw [h] at h1;cases h1
def hideS (d : Dv) (i : Int) (ls : List Lk) (p : Pk) (x : Nat) : PutS:=fun t c'=>∃ y : Nat,y < x /\ poolB d (y : Int) = true /\ peerF ls i 1 = some t /\ c' = codeN ⟨d.addr,p.d,(y : Int),p.dp⟩
theorem hide_start {p : Pk} : un Q (hideS d i ls p 0) = Q:=un_no fun _ _ ⟨j,h,_⟩=>by omega
theorem hide_no {p : Pk} {x : Nat} (h : poolB d (x : Int) = false) : un Q (hideS d i ls p (x + 1)) = un Q (hideS d i ls p x):=by
 funext t c'
 refine propext (or_congr Iff.rfl ⟨fun ⟨y,h1,h2,h3⟩=>⟨y,?_,h2,h3⟩,fun ⟨y,h1,h2⟩=>⟨y,by omega,h2⟩⟩);by_cases e : y = x
 ·subst e;rw [h] at h2;cases h2
 ·omega
theorem hide_yes {p : Pk} {x : Nat} (h : poolB d (x : Int) = true) : addP (un Q (hideS d i ls p x)) (peerF ls i 1) (codeN ⟨d.addr,p.d,(x : Int),p.dp⟩) = un Q (hideS d i ls p (x + 1)):=by
 funext t c'
 refine propext ⟨?_,?_⟩
 ·rintro ((h1 | ⟨y,h1,h2,h3⟩) | ⟨h1,h2⟩)
  ·exact Or.inl h1
  ·exact Or.inr ⟨y,by omega,h2,h3⟩
  ·exact Or.inr ⟨x,by omega,h,h1,h2⟩
 ·rintro (h1 | ⟨y,h1,h2,h3,h4⟩)
  ·exact Or.inl (Or.inl h1)
  ·by_cases e : y = x
   ·subst e;exact Or.inr ⟨h3,h4⟩
   ·exact Or.inl (Or.inr ⟨y,by omega,h2,h3,h4⟩)
theorem hide_end (h1 : wasB T k (i,0) c = true) : un Q (hideS d i ls (pkN c) 8) = un Q (one4 d i ls T k os 0 c):=by
 funext t c'
 refine propext (or_congr Iff.rfl ⟨fun ⟨y,a1,a2,a3,a4⟩=>⟨h1,Or.inl ⟨rfl,y,a1,a2,a3,a4⟩⟩,?_⟩);rintro ⟨_,⟨_,y,a1,a2,a3,a4⟩ | ⟨a,_⟩⟩
 ·exact ⟨y,a1,a2,a3,a4⟩
 ·omega
def showS (i : Int) (ls : List Lk) (os : List Pk) (p : Pk) (x : Nat) : PutS:=fun t c'=>∃ (j : Nat) (o : Pk),j < x /\ os[j]? = some o /\ peerF ls i 0 = some t /\ c' = codeN ⟨p.s,o.s,p.sp,o.sp⟩
theorem show_start {p : Pk} : un Q (showS i ls os p 0) = Q:=un_no fun _ _ ⟨j,o,h,_⟩=>by omega
theorem show_step {p o : Pk} {x : Nat} (h : os[x]? = some o) : addP (un Q (showS i ls os p x)) (peerF ls i 0) (codeN ⟨p.s,o.s,p.sp,o.sp⟩) = un Q (showS i ls os p (x + 1)):=by
 funext t c'
 refine propext ⟨?_,?_⟩
 ·rintro ((h1 | ⟨j,b',h1,h2,h3,h4⟩) | ⟨h1,h2⟩)
  ·exact Or.inl h1
  ·exact Or.inr ⟨j,b',by omega,h2,h3,h4⟩
  ·exact Or.inr ⟨x,o,by omega,h,h1,h2⟩
 ·rintro (h1 | ⟨j,b',h1,h2,h3,h4⟩)
  ·exact Or.inl (Or.inl h1)
  ·by_cases e : j = x
   ·subst e;rw [h] at h2;cases h2;exact Or.inr ⟨h3,h4⟩
   ·exact Or.inl (Or.inr ⟨j,b',by omega,h2,h3,h4⟩)
theorem show_end (h1 : wasB T k (i,1) c = true) (h2 : (pkN c).d = d.addr) (h3 : poolB d (pkN c).dp = true) : un Q (showS i ls os (pkN c) os.length) = un Q (one4 d i ls T k os 1 c):=by
 funext t c'
 refine propext (or_congr Iff.rfl ⟨fun ⟨j,o,_,a2,a3,a4⟩=>⟨h1,Or.inr ⟨rfl,h2,h3,o,List.mem_of_getElem? a2,a3,a4⟩⟩,?_⟩);rintro ⟨_,⟨a,_⟩ | ⟨_,_,_,o,a2,a3,a4⟩⟩
 ·omega
 ·obtain ⟨j,hj,e⟩:=List.mem_iff_getElem.1 a2;exact ⟨j,o,hj,by rw [List.getElem?_eq_getElem hj,e],a3,a4⟩
theorem show_no (h : ¬ ((pkN c).d = d.addr /\ poolB d (pkN c).dp = true)) : un Q (one4 d i ls T k os 1 c) = Q:=un_no fun _ _ ⟨_,a⟩=>by
 rcases a with ⟨a,_⟩ | ⟨_,a1,a2,_⟩
 ·omega
 ·exact h ⟨a1,a2⟩
theorem show_nil : un Q (one4 d i ls T k [] 1 c) = Q:=un_no fun _ _ ⟨_,a⟩=>by
 rcases a with ⟨a,_⟩ | ⟨_,_,_,o,a,_⟩
 ·omega
 ·cases a
def OwnC (i : Int) (T : Tab) (k : Int) (c : Nat) (os : List Pk) : Prop :=
 (∀ o ∈ os,∃ y : Nat,y < c /\ o.s = ((y / 8 : Nat) : Int) /\ o.sp = ((y % 8 : Nat) : Int) /\ ∃ x : Nat,x < 128 /\ wasB T k (i,0) (codeN ⟨((y / 8 : Nat) : Int),((x / 8 : Nat) : Int),((y % 8 : Nat) : Int),((x % 8 : Nat) : Int)⟩) = true) /\
 (∀ y : Nat,y < c -> ∀ x : Nat,x < 128 -> wasB T k (i,0) (codeN ⟨((y / 8 : Nat) : Int),((x / 8 : Nat) : Int),((y % 8 : Nat) : Int),((x % 8 : Nat) : Int)⟩) = true -> ∃ o ∈ os,o.s = ((y / 8 : Nat) : Int) /\ o.sp = ((y % 8 : Nat) : Int))
theorem own_start : OwnC i T k 0 []:=⟨(fun o h=>by cases h),fun y h=>by omega⟩
theorem own_no (h : OwnC i T k c os) (hn : ∀ x : Nat,x < 128 -> wasB T k (i,0) (codeN ⟨((c / 8 : Nat) : Int),((x / 8 : Nat) : Int),((c % 8 : Nat) : Int),((x % 8 : Nat) : Int)⟩) = false) : OwnC i T k (c + 1) os:=by
 refine ⟨fun o ho=>?_,fun y hy x hx hw=>?_⟩
 ·obtain ⟨y,h1,h2⟩:=h.1 o ho;exact ⟨y,by omega,h2⟩
 ·by_cases e : y = c
  ·subst e;rw [hn x hx] at hw;cases hw
  ·exact h.2 y (by omega) x hx hw
theorem own_yes (h : OwnC i T k c os) {x : Nat} (hx : x < 128) (hw : wasB T k (i,0) (codeN ⟨((c / 8 : Nat) : Int),((x / 8 : Nat) : Int),((c % 8 : Nat) : Int),((x % 8 : Nat) : Int)⟩) = true) : OwnC i T k (c + 1) (os ++ [⟨((c / 8 : Nat) : Int),((x / 8 : Nat) : Int),((c % 8 : Nat) : Int),((x % 8 : Nat) : Int)⟩]):=by
 refine ⟨fun o ho=>?_,fun y hy x' hx' hw'=>?_⟩
 ·rcases List.mem_append.1 ho with ho | ho
  ·obtain ⟨y,h1,h2⟩:=h.1 o ho;exact ⟨y,by omega,h2⟩
  ·simp only [List.mem_singleton] at ho;subst ho;exact ⟨c,by omega,rfl,rfl,x,hx,hw⟩
 ·by_cases e : y = c
  ·subst e;exact ⟨_,List.mem_append.2 (Or.inr (List.mem_singleton.2 rfl)),rfl,rfl⟩
  ·obtain ⟨o,h1,h2⟩:=h.2 y (by omega) x' hx' hw';exact ⟨o,List.mem_append.2 (Or.inl h1),h2⟩
theorem own_all (h : OwnC i T k 128 os) : OwnL i T k os:=by
 intro s sp;constructor
 ·rintro ⟨o,ho,rfl,rfl⟩;obtain ⟨y,hy,e1,e2,x,hx,hw⟩:=h.1 o ho;refine ⟨((x / 8 : Nat) : Int),((x % 8 : Nat) : Int),?_,?_⟩
  ·rw [e1,e2];exact pk_made (by dsimp only;omega) (by dsimp only;omega) (by dsimp only;omega) (by dsimp only;omega)
  ·rw [e1,e2];exact hw
 ·rintro ⟨x,y,hp,hw⟩;obtain ⟨h1,h2,h3,h4⟩:=pk_bounds hp;dsimp only at h1 h2 h3 h4;have e1 : (((s.toNat * 8 + sp.toNat) / 8 : Nat) : Int) = s:=by omega
  have e2 : (((s.toNat * 8 + sp.toNat) % 8 : Nat) : Int) = sp:=by omega
  have e3 : (((x.toNat * 8 + y.toNat) / 8 : Nat) : Int) = x:=by omega
  have e4 : (((x.toNat * 8 + y.toNat) % 8 : Nat) : Int) = y:=by omega
  have:=h.2 (s.toNat * 8 + sp.toNat) (by omega) (x.toNat * 8 + y.toNat) (by omega);rw [e1,e2,e3,e4] at this;exact this hw
end
theorem dev4f {d : Dv} {i : Int} {ls : List Lk} {T : Tab} {k : Int} (hk : d.kind = 4) (ha : 0 <= d.addr /\ d.addr < 16) (h1 : ∀ c,c < 16384 -> wasB T k (i,1) c = false) : sumP 2 (one4 d i ls T k []) = devP d i ls T k:=by
 have e : ∀ os : List Pk,sumP 2 (one4 d i ls T k []) = sumP 2 (one4 d i ls T k os):=fun os=>by
  funext t c'
  refine propext ⟨fun ⟨q,c,a1,a2,a3,a4,a5⟩=>⟨q,c,a1,a2,a3,a4,?_⟩,fun ⟨q,c,a1,a2,a3,a4,a5⟩=>⟨q,c,a1,a2,a3,a4,?_⟩⟩
  ·rcases a5 with a5 | ⟨rfl,_⟩
   ·exact Or.inl a5
   ·rw [h1 _ a3] at a4;cases a4
  ·rcases a5 with a5 | ⟨rfl,_⟩
   ·exact Or.inl a5
   ·rw [h1 _ a3] at a4;cases a4
 obtain ⟨os,ho⟩ : ∃ os : List Pk,OwnL i T k os:=by
  classical
  refine ⟨((List.range 128).filter fun y=>decide (∃ a b,wasS T k (i,0) ⟨((y / 8 : Nat) : Int),a,((y % 8 : Nat) : Int),b⟩)).map fun y=>⟨((y / 8 : Nat) : Int),0,((y % 8 : Nat) : Int),0⟩,fun s sp=>⟨?_,?_⟩⟩
  ·rintro ⟨o,ho,rfl,rfl⟩;obtain ⟨y,hy,rfl⟩:=List.mem_map.1 ho;exact of_decide_eq_true (List.mem_filter.1 hy).2
  ·rintro ⟨a,b,hw⟩;obtain ⟨b1,b2,b3,b4⟩:=pk_bounds hw.1;dsimp only at b1 b3;have e1 : (((s.toNat * 8 + sp.toNat) / 8 : Nat) : Int) = s:=by omega
   have e2 : (((s.toNat * 8 + sp.toNat) % 8 : Nat) : Int) = sp:=by omega
   refine ⟨⟨s,0,sp,0⟩,List.mem_map.2 ⟨s.toNat * 8 + sp.toNat,List.mem_filter.2 ⟨List.mem_range.2 (by omega),decide_eq_true ⟨a,b,?_⟩⟩,?_⟩,rfl,rfl⟩
   ·rw [e1,e2];exact hw
   ·rw [e1,e2]
 rw [e os];exact dev4 hk ha ho
structure DL (V : Boxes -> PutS -> World -> Prop) (n0 : Nat) : Prop where
 up : ∀ {bx : Boxes} {Q : PutS} {W : World},V bx Q W -> n0 <= W.heap.size
 low : ∀ {bx : Boxes} {Q : PutS} {W W' : World} {hb : Nat},V bx Q W -> n0 <= hb -> (∀ y ∈ bx,y.1 < hb) -> Below hb W W' -> V bx Q W'
 add : ∀ {bx : Boxes} {Q : PutS} {W : World} {g : Nat} {c : Array Value} {t : TypeId},V bx Q W -> n0 <= g -> Bk W g c t -> V ((g,c,t) :: bx) Q W
def pkRow (os : List Pk) : List Value:=os.flatMap fun p=>[.int .i64 p.s,.int .i64 p.d,.int .i64 p.sp,.int .i64 p.dp]
theorem pkRow_add (os : List Pk) (p : Pk) : pkRow (os ++ [p]) = pkRow os ++ [.int .i64 p.s,.int .i64 p.d,.int .i64 p.sp,.int .i64 p.dp]:=by simp [pkRow]
theorem pkRow_at : ∀ {os : List Pk} {j : Nat} {o : Pk},os[j]? = some o -> (pkRow os)[j * 4]? = some (.int .i64 o.s) /\ (pkRow os)[j * 4 + 2]? = some (.int .i64 o.sp)
 | [],_,_,h=>by simp at h
 | p :: l,0,o,h=>by
   simp at h;subst h;exact ⟨rfl,rfl⟩
 | p :: l,j + 1,o,h=>by
   have h' : l[j]? = some o:=by simpa using h
   obtain ⟨h1,h2⟩:=pkRow_at h';have e : pkRow (p :: l) = .int .i64 p.s :: .int .i64 p.d :: .int .i64 p.sp :: .int .i64 p.dp :: pkRow l:=rfl;rw [e,show (j + 1) * 4 = j * 4 + 1 + 1 + 1 + 1 by omega,show j * 4 + 1 + 1 + 1 + 1 + 2 = (j * 4 + 2) + 1 + 1 + 1 + 1 by omega];exact ⟨h1,h2⟩
theorem uPks : Tryz.prog.underlying 149 = some (.slice 29):=by kernel_rfl
theorem infoPks : (Tryz.prog.info? 29).map (fun i=>(i.zero,i.size,i.bytes)) = some (some (.agg #[.int .i64 0,.int .i64 0,.int .i64 0,.int .i64 0]),4,32):=by kernel_rfl
theorem own_appP {W : World} {hb : Nat} {v : Value} {os : List Pk} (h : W.ownsRow hb 29 4 v os.length (pkRow os)) (p : Pk) (hn : os.length <= 128) (hB : hb <= W.heap.size) :
  ∃ g cap W1,(Builtin.append_ #[149,149] 149 #[v,.slice (some ⟨W.heap.size,0,none⟩) 1 1]).run Tryz.prog (W.alloc (.cells #[.int .i64 p.s,.int .i64 p.d,.int .i64 p.sp,.int .i64 p.dp] 29)) = .ok (.slice (some ⟨g,0,none⟩) (os.length + 1) cap) W1 /\ W1.ownsRow hb 29 4 (.slice (some ⟨g,0,none⟩) (os.length + 1) cap) (os.length + 1) (pkRow (os ++ [p])) /\ Below hb W W1:=by
 obtain ⟨v',W1,hr,h1,h2,_⟩:=app_elS uPks infoPks rfl (by omega) (by omega) 149 h (us:=[.int .i64 p.s,.int .i64 p.d,.int .i64 p.sp,.int .i64 p.dp]) rfl (by simp [Value.oneCell']) (by omega) hB;have h1':=h1;obtain ⟨_,⟨_,h0⟩ | ⟨g,cap,cur,rfl,_⟩⟩:=h1'
 ·omega
 ·rw [pkRow_add];exact ⟨g,cap,W1,hr,h1,h2⟩
theorem own_box {V : Boxes -> PutS -> World -> Prop} {n0 hb : Nat} (HL : DL V n0) (get : ∀ {bx : Boxes} {Q : PutS} {W : World},V bx Q W -> ∀ y ∈ bx,Bk W y.1 y.2.1 y.2.2) {W : World} {BX : Boxes} {Q : PutS} {A : Option Addr} {cap : Nat} {os : List Pk} (h : V BX Q W) (hn : n0 <= hb) (ho : W.ownsRow hb 29 4 (.slice A os.length cap) os.length (pkRow os)) :
  ∃ OB : Boxes,V (OB ++ BX) Q W /\ ∀ (Q' : PutS) (W' : World) (bx : Boxes) (j : Nat) (o : Pk),os[j]? = some o -> (∀ y ∈ OB ++ BX,y ∈ bx) -> V bx Q' W' -> ∃ g,A = some ⟨g,0,none⟩ /\ W'.cell? ⟨g,j * 4,none⟩ = some (.int .i64 o.s) /\ W'.cell? ⟨g,j * 4 + 2,none⟩ = some (.int .i64 o.sp):=by
 obtain ⟨hl,⟨_,h0⟩ | ⟨g,cap',cur,e,hB,hg,h1,h2,h3,h4⟩⟩:=ho
 ·refine ⟨[],h,fun Q' W' bx j o hj=>?_⟩;rw [List.eq_nil_of_length_eq_zero h0] at hj;simp at hj
 ·simp only [Value.slice.injEq] at e;obtain ⟨rfl,_,rfl⟩:=e;refine ⟨[(g,cur,29)],HL.add h (by omega) hg,fun Q' W' bx j o hj hs hv=>⟨g,rfl,?_⟩⟩;have B:=get hv (g,cur,29) (hs _ (by simp));obtain ⟨p1,p2⟩:=pkRow_at hj;have hlt:=(List.getElem?_eq_some_iff.1 p2).1;have key : ∀ m,m < (pkRow os).length -> cur[m]? = (pkRow os)[m]?:=fun m hm=>by
   rw [<- h4,List.getElem?_take,if_pos (by omega)];simp
  refine ⟨?_,?_⟩
  ·rw [B.at (j * 4)];show cur[j * 4]? = _;rw [key _ (by omega),p1]
  ·rw [B.at (j * 4 + 2)];show cur[j * 4 + 2]? = _;rw [key _ hlt,p2]
theorem dev4f_any (V : Boxes -> PutS -> World -> Prop) (d : Dv) (i : Nat) (ls : List Lk) (T : Tab) (k : Int) (S nb sb kb mb b o n cap cl : Nat) (L : Option Addr) (cap' : Nat) (vb vr vt : Value) (Q0 : PutS) (w : World) (hop0 : (peerF ls (i : Int) 1).isSome = false) (hi : (i : Int) < (n : Int)) (hk : d.kind = 4)
  (H : Hid (DV V d i ls T k S nb sb kb mb (.agg #[.slice (some ⟨b,o,none⟩) n cap,.slice L cl cap']) vr vt)) (V0 : V [] Q0 w)
  (HD : Hid (∀ bx Q W,V bx Q W -> W.cell? ⟨b,o + i * 7,none⟩ = some (.string d.name) /\ W.cell? ⟨b,o + i * 7 + 1,none⟩ = some (.int .i64 d.kind) /\ W.cell? ⟨b,o + i * 7 + 2,none⟩ = some (.int .i64 d.addr) /\ W.cell? ⟨b,o + i * 7 + 3,none⟩ = some (.int .u8 (d.pool : Int)) /\ W.cell? ⟨b,o + i * 7 + 4,none⟩ = some vb /\ W.cell? ⟨b,o + i * 7 + 5,none⟩ = some vr /\ W.cell? ⟨b,o + i * 7 + 6,none⟩ = some vt))
  (hv : (∃ A n c,vb = .slice A n c) /\ (∃ A n c,vr = .slice A n c) /\ ∃ A n c,vt = .slice A n c)
  (ha : 0 <= d.addr /\ d.addr < 16) (hpl : d.pool < 256) :
  Calls Tryz.prog 38 #[.pointer (some ⟨S,0,none⟩),.agg #[.slice (some ⟨b,o,none⟩) n cap,.slice L cl cap'],.int .i64 (i : Int),.int .i64 k,.func (.func 36) #[] #[.pointer (some ⟨nb,0,none⟩),.pointer (some ⟨sb,0,none⟩),.pointer (some ⟨kb,0,none⟩),.pointer (some ⟨mb,0,none⟩)]] w fun e w'=>e = .returned (.tuple #[]) /\ V [] (un Q0 (sumP ((2 : Nat) : Int) (one4 d (i : Int) ls T k []))) w':=by
 obtain ⟨⟨Ab,nbb,cb,rfl⟩,⟨Ar,nr,cr,rfl⟩,⟨At,nt,ct,rfl⟩⟩:=hv;have i0 : (0 : Int) <= (i : Int):=by omega
 have PO : Hid (∀ W : World,Calls Tryz.prog 19 #[.int .i64 4] W fun e w'=>e = .returned (.int .i64 2) /\ Below W.heap.size W w'):=fun W=>rports_any 4 W;have PK : Hid (∀ (c : Nat) (W : World),c < 16384 -> Calls Tryz.prog 21 #[.int .i64 (c : Int)] W fun e w'=>e = .returned (pkV (pkN c)) /\ Below W.heap.size W w'):=fun c W hc=>rpacket_any c W hc;have V1:=H.out.new V0 #[.slice (some ⟨b,o,none⟩) n cap,.slice L cl cap'] 25;obtain ⟨c0,c1,c2,c3,c4,c5,c6⟩:=HD.out _ _ _ V1;rw [hk] at c1;have N1:=(bk_new w #[.slice (some ⟨b,o,none⟩) n cap,.slice L cl cap'] 25);obtain ⟨n1,n2⟩:=N1.two;clear V0 HD N1;go_enter Tryz.func38,Tryz.ntmps38;go_upto_region 2 with fail;have V2:=H.out.new V1 #[.string d.name,.int .i64 4,.int .i64 d.addr,.int .u8 (d.pool : Int),.slice Ab nbb cb,.slice Ar nr cr,.slice At nt ct] 56;rw [World.size_alloc] at V2;clear V1 c0 c1 c2 c3 c4 c5 c6 n1 n2;generalize (w.alloc (.cells #[.slice (some ⟨b,o,none⟩) n cap,.slice L cl cap'] 25)).alloc (.cells #[.string d.name,.int .i64 4,.int .i64 d.addr,.int .u8 (d.pool : Int),.slice Ab nbb cb,.slice Ar nr cr,.slice At nt ct] 56) = w2 at *;generalize w.heap.size = y at *;obtain ⟨n1,n2⟩:=(H.out.get V2 (_,_,_) (List.mem_cons_of_mem _ List.mem_cons_self)).two;have PE:=H.out.peer V2 1;obtain ⟨p1,p2,hpl⟩ : ∃ p1 p2 : Int,placeV (peerF ls i 1) = .agg #[.int .i64 p1,.int .i64 p2]:=by cases peerF ls i 1 <;> exact ⟨_,_,rfl⟩
 rw [hpl] at PE;rw [hop0] at PE;clear hpl;go_wp2_with fail;refine PE.mono ?_;rintro e w3 ⟨rfl,V3⟩;clear PE V2 n1 n2;have V4:=H.out.new V3 #[.int .i64 p1,.int .i64 p2] 27;clear V3;go_upto_region 3 with fail;generalize w3.alloc (.cells #[.int .i64 p1,.int .i64 p2] 27) = w4 at *;generalize w3.heap.size = z at *;obtain ⟨BX,hBX⟩ : ∃ BX : Boxes,BX = [(z,#[.int .i64 p1,.int .i64 p2],27),(y + 1,#[.string d.name,.int .i64 4,.int .i64 d.addr,.int .u8 (d.pool : Int),.slice Ab nbb cb,.slice Ar nr cr,.slice At nt ct],56),(y,#[.slice (some ⟨b,o,none⟩) n cap,.slice L cl cap'],25)]:=⟨_,rfl⟩;rw [<- hBX] at V4;have BD : Hid (∀ {Q : PutS} {W : World},V BX Q W -> W.cell? ⟨y + 1,0,none⟩ = some (.string d.name) /\ W.cell? ⟨y + 1,1,none⟩ = some (.int .i64 4) /\ W.cell? ⟨y + 1,2,none⟩ = some (.int .i64 d.addr) /\ W.cell? ⟨y + 1,3,none⟩ = some (.int .u8 (d.pool : Int)) /\ W.cell? ⟨y + 1,4,none⟩ = some (.slice Ab nbb cb) /\ W.cell? ⟨y + 1,5,none⟩ = some (.slice Ar nr cr) /\ W.cell? ⟨y + 1,6,none⟩ = some (.slice At nt ct)):=fun {Q W} hv=>by
  rw [hBX] at hv;have B:=H.out.get hv (_,_,_) (List.mem_cons_of_mem _ List.mem_cons_self);exact ⟨B.at 0,B.at 1,B.at 2,B.at 3,B.at 4,B.at 5,B.at 6⟩
 have GP : Hid (∀ {x : Nat} {s0 s1 s2 s3 : Int} {bx : Boxes} {Q : PutS} {W : World},V ((x,#[.int .i64 s0,.int .i64 s1,.int .i64 s2,.int .i64 s3],29) :: bx) Q W -> W.cell? ⟨x,0,none⟩ = some (.int .i64 s0) /\ W.cell? ⟨x,1,none⟩ = some (.int .i64 s1) /\ W.cell? ⟨x,2,none⟩ = some (.int .i64 s2) /\ W.cell? ⟨x,3,none⟩ = some (.int .i64 s3)):=fun {x s0 s1 s2 s3 bx Q W} hv=>by
  obtain ⟨a0,a1,a2,a3,_⟩:=(H.out.get hv (_,_,_) List.mem_cons_self).four;exact ⟨a0,a1,a2,a3⟩
 have BT : Hid (∀ {y' : Nat × Array Value × TypeId} {Q : PutS} {W : World},V (y' :: BX) Q W -> V BX Q W):=fun {y' Q W} hv=>H.out.less hv (fun y hy=>List.mem_cons_of_mem _ hy);have HA : Hid (∀ (b : Nat) (n : Int) (W : World),b < 65536 -> Calls Tryz.prog 77 #[.int .i64 (b : Int),.int .i64 n] W fun e w'=>e = .returned (.bool (hasB b n)) /\ w' = W):=fun b n W h=>rhas_int b n W h;have hpool : ∀ n : Int,0 <= n /\ n < 8 -> hasB d.pool n = poolB d n:=fun n hn=>by
  unfold hasB poolB poB;rw [show decide (n < 8) = true from decide_eq_true hn.2];simp
 obtain ⟨_,d1,_⟩:=BD.out V4;go_wp2_with fail;go_loopw [13,14] (fun s13 s wr=>s13 = .slice none 0 0 /\ s = .int .i64 0 /\ V BX Q0 wr) (fun _ _ _=>0)
 case atStart=>exact ⟨rfl,rfl,V4⟩
 case round =>
  clear V4 d1;obtain ⟨rfl,rfl,V6⟩:=hrel;obtain ⟨_,e1,_⟩:=BD.out V6;go_wp2_with fail;go_loopw [17] (fun s wr=>∃ q : Nat,s = .int .i64 (q : Int) /\ q <= 2 /\ V BX (un Q0 (partQ (one4 d (i : Int) ls T k []) q 0)) wr) (fun s _=>2 - (intOf s).toNat)
  case atStart=>exact ⟨0,rfl,by omega,by rw [un_start];exact V6⟩
  case round =>
   clear V6 e1;obtain ⟨q,rfl,hq,V6⟩:=hrel;obtain ⟨_,e1,_⟩:=BD.out V6;go_wp2_with fail;refine (PO.out _).mono ?_;rintro e w6 ⟨rfl,hb6⟩;have V7:=H.out.below V6 hb6;clear V6 hb6 e1;by_cases hqP : q < 2
   rotate_left
   ·obtain rfl : q = 2:=by omega
    have V8:=H.out.less V7 (bx':=[]) (fun y hy=>by cases hy);rw [un_end] at V8;clear V7;go_wp2_with fail
    go_returns
    exact ⟨rfl,V8⟩
   have q1 : (q : Int) < 2:=by omega
   go_wp2_with fail;go_loopw [18] (fun s wr=>∃ c : Nat,s = .int .i64 (c : Int) /\ c <= 16384 /\ V BX (un Q0 (partQ (one4 d (i : Int) ls T k []) q c)) wr) (fun s _=>16384 - (intOf s).toNat)
   case atStart=>exact ⟨0,rfl,by omega,V7⟩
   case round =>
    clear V7;obtain ⟨c,rfl,hc,V8⟩:=hrel;by_cases hlt : c < 16384
    rotate_left
    ·obtain rfl : c = 16384:=by omega
     rw [un_row] at V8;go_wp2_with fail;go_roundw
     case rel=>exact ⟨q + 1,by go_num,by omega,V8⟩
     case measure=>first | omega | (simp [intOf];omega) | simp [intOf]
    have c1 : (c : Int) < 16384:=by omega
    have WA:=H.out.was V8 (q : Int) c (by omega) (by rw [hk];show (q : Int) < 2;omega) hlt;have ST : Hid (∀ W,V BX (un (un Q0 (partQ (one4 d (i : Int) ls T k []) q c)) ((one4 d (i : Int) ls T k []) (q : Int) c)) W -> V BX (un Q0 (partQ (one4 d (i : Int) ls T k []) q (c + 1))) W):=fun W h=>by rw [un_step hlt] at h;exact h
    generalize un Q0 (partQ (one4 d (i : Int) ls T k []) q c) = Qc at *;cases hw : wasB T k ((i : Int),(q : Int)) c with
    | false =>
      rw [hw] at WA;have V9 : V BX (un Qc ((one4 d (i : Int) ls T k []) (q : Int) c)) wr:=by
       rw [one4_was hw];exact V8
      clear hw;go_wp2_with fail;refine WA.mono ?_;rintro e w' ⟨rfl,rfl⟩;clear WA;go_wp2_with fail;go_roundw
      case rel=>exact ⟨c + 1,by go_num,by omega,ST.out _ V9⟩
      case measure=>first | omega | (simp [intOf];omega) | simp [intOf]
    | true =>
      rw [hw] at WA;go_wp2_with fail;refine WA.mono ?_;rintro e w' ⟨rfl,rfl⟩;clear WA;go_wp2_with fail;refine (PK.out c _ hlt).mono ?_;rintro e w9 ⟨rfl,hb9⟩;have V9:=H.out.below V8 hb9;have VA:=H.out.new V9 #[.int .i64 (pkN c).s,.int .i64 (pkN c).d,.int .i64 (pkN c).sp,.int .i64 (pkN c).dp] 29;clear V8 V9 hb9;go_upto_region 22 with fail;generalize w9.alloc (.cells #[.int .i64 (pkN c).s,.int .i64 (pkN c).d,.int .i64 (pkN c).sp,.int .i64 (pkN c).dp] 29) = wa at *;generalize w9.heap.size = u at *;have hpc:=pkN_ok hlt;obtain ⟨hp1,hp2,hp3,hp4⟩:=pk_bounds hpc;obtain ⟨_,e1,_⟩:=BD.out (BT.out VA);obtain hqe | hqe : (q : Int) = 0 ∨ (q : Int) = 1:=by omega
      ·have f0 : ((q : Int) == 0) = true:=by simpa using hqe
       have f1 : ((q : Int) == 1) = false:=by simp [hqe]
       have PX : Hid (∀ {bx : Boxes} {Q : PutS} {W : World} (x : Nat),x < 8 -> V bx Q W -> Calls Tryz.prog 36 #[.int .i64 (i : Int),.int .i64 1,.agg #[.int .i64 d.addr,.int .i64 (pkN c).d,.int .i64 (x : Int),.int .i64 (pkN c).dp],.pointer (some ⟨nb,0,none⟩),.pointer (some ⟨sb,0,none⟩),.pointer (some ⟨kb,0,none⟩),.pointer (some ⟨mb,0,none⟩)] W fun e w'=>e = .returned (.tuple #[]) /\ V bx (addP Q (peerF ls (i : Int) 1) (codeN ⟨d.addr,(pkN c).d,(x : Int),(pkN c).dp⟩)) w'):=fun x hx h=>H.out.put h 1 ⟨d.addr,(pkN c).d,(x : Int),(pkN c).dp⟩ (pk_made ha hp2 (by dsimp only;omega) hp4);have HY : Hid (∀ x : Nat,poolB d (x : Int) = true -> addP (un Qc (hideS d (i : Int) ls (pkN c) x)) (peerF ls (i : Int) 1) (codeN ⟨d.addr,(pkN c).d,(x : Int),(pkN c).dp⟩) = un Qc (hideS d (i : Int) ls (pkN c) (x + 1))):=fun x h=>hide_yes h;have HF : Hid (∀ x : Nat,poolB d (x : Int) = false -> un Qc (hideS d (i : Int) ls (pkN c) (x + 1)) = un Qc (hideS d (i : Int) ls (pkN c) x)):=fun x h=>hide_no h;have HE : Hid (un Qc (hideS d (i : Int) ls (pkN c) 8) = un Qc (one4 d (i : Int) ls T k [] (q : Int) c)):=by
        rw [hqe] at hw ⊢;exact hide_end hw
       have VB : V ((u,#[.int .i64 (pkN c).s,.int .i64 (pkN c).d,.int .i64 (pkN c).sp,.int .i64 (pkN c).dp],29) :: BX) (un Qc (hideS d (i : Int) ls (pkN c) 0)) wa:=by rw [hide_start];exact VA
       clear hw hqe VA hp1 hp2 hp3 hp4;generalize hideS d (i : Int) ls (pkN c) = hS at *;generalize one4 d (i : Int) ls T k [] (q : Int) c = R at *;generalize pkN c = pc at *;obtain ⟨a,b',c',e'⟩:=pc;dsimp only at *;go_wp2_with fail;go_loopw [23] (fun s23 wr=>∃ x : Nat,s23 = .int .i64 (x : Int) /\ x <= 8 /\ V ((u,#[.int .i64 a,.int .i64 b',.int .i64 c',.int .i64 e'],29) :: BX) (un Qc (hS x)) wr) (fun s23 _=>8 - (intOf s23).toNat)
       case atStart=>exact ⟨0,rfl,by omega,VB⟩
       case round =>
        clear VB e1;obtain ⟨x,rfl,hx,VC⟩:=hrel;obtain ⟨e0,e1,e2,e3,_⟩:=BD.out (BT.out VC);by_cases hx8 : x < 8
        ·have y8 : (x : Int) < 8:=by omega
         have HAx:=HA.out d.pool (x : Int) wr (by omega);rw [hpool (x : Int) (by omega)] at HAx;have HFx:=Hid.of (HF.out x);have HYx:=Hid.of (HY.out x);have PXx : Hid (∀ {bx : Boxes} {Q : PutS} {W : World},V bx Q W -> Calls Tryz.prog 36 #[.int .i64 (i : Int),.int .i64 1,.agg #[.int .i64 d.addr,.int .i64 b',.int .i64 (x : Int),.int .i64 e'],.pointer (some ⟨nb,0,none⟩),.pointer (some ⟨sb,0,none⟩),.pointer (some ⟨kb,0,none⟩),.pointer (some ⟨mb,0,none⟩)] W fun e w'=>e = .returned (.tuple #[]) /\ V bx (addP Q (peerF ls (i : Int) 1) (codeN ⟨d.addr,b',(x : Int),e'⟩)) w'):=fun h=>PX.out x hx8 h;generalize codeN ⟨d.addr,b',(x : Int),e'⟩ = cx at *;generalize poolB d (x : Int) = pb at *;cases pb with
         | false =>
           have HFy:=Hid.of (HFx.out rfl);clear HFx HYx PXx;go_wp2_with fail;refine HAx.mono ?_;rintro e w' ⟨rfl,rfl⟩;clear HAx;go_wp2_with fail;go_roundw
           case rel=>exact ⟨x + 1,by go_num,by omega,by rw [HFy.out];exact VC⟩
           case measure=>first | omega | (simp [intOf];omega) | simp [intOf]
         | true =>
           have HYy:=Hid.of (HYx.out rfl);clear HFx HYx;have VD:=H.out.new VC #[.int .i64 a,.int .i64 b',.int .i64 c',.int .i64 e'] 29;have VN:=H.out.new VC #[.int .i64 d.addr,.int .i64 b',.int .i64 (x : Int),.int .i64 e'] 29;obtain ⟨x0,x1,x2,x3⟩:=GP.out VC;obtain ⟨_,_,f2,_⟩:=BD.out (BT.out (H.out.less VD (bx':=((u,#[.int .i64 a,.int .i64 b',.int .i64 c',.int .i64 e'],29) :: BX)) (fun y hy=>List.mem_cons_of_mem _ hy)));go_upto_region 40 with (go_at_call 77;refine HAx.mono ?_;rintro e w' ⟨rfl,rfl⟩)
           generalize wr.alloc (.cells #[.int .i64 d.addr,.int .i64 b',.int .i64 (x : Int),.int .i64 e'] 29) = wn at *;generalize wr.heap.size = z4 at *;obtain ⟨g0,g1,g2,g3⟩:=GP.out VN;clear VC VD HAx x0 x1 x2 x3 f2 e0 e1 e2 e3;go_wp2_with fail;refine (PXx.out VN).mono ?_;rintro e wm ⟨rfl,VM⟩;have VZ:=H.out.less VM (bx':=((u,#[.int .i64 a,.int .i64 b',.int .i64 c',.int .i64 e'],29) :: BX)) (fun y hy=>List.mem_cons_of_mem _ hy);rw [HYy.out] at VZ;clear VN VM g0 g1 g2 g3 PXx;go_wp2_with fail;go_roundw
           case rel=>exact ⟨x + 1,by go_num,by omega,VZ⟩
           case measure=>first | omega | (simp [intOf];omega) | simp [intOf]
        ·obtain rfl : x = 8:=by omega
         have VH:=VC;rw [HE.out] at VH;clear VC HE HF HY PX e0 e1 e2 e3;go_wp2_with fail;go_loopw [25] (fun s25 wr=>s25 = .int .i64 0 /\ V ((u,#[.int .i64 a,.int .i64 b',.int .i64 c',.int .i64 e'],29) :: BX) (un Qc R) wr) (fun _ _=>0)
         case atStart=>exact ⟨rfl,VH⟩
         case round =>
          clear VH;obtain ⟨rfl,VZ⟩:=hrel;by_cases hlo : (0 : Int) < 0
          ·go_wp2_with fail;go_roundw
           case rel=>exact ⟨c + 1,by go_num,by omega,ST.out _ (H.out.less VZ (fun y hy=>List.mem_cons_of_mem _ hy))⟩
           case measure=>first | omega | (simp [intOf];omega) | simp [intOf]
          ·go_wp2_with fail;go_roundw
           case rel=>exact ⟨c + 1,by go_num,by omega,ST.out _ (H.out.less VZ (fun y hy=>List.mem_cons_of_mem _ hy))⟩
           case measure=>first | omega | (simp [intOf];omega) | simp [intOf]
      ·have f0 : ((q : Int) == 0) = false:=by simp [hqe]
       have f1 : ((q : Int) == 1) = true:=by simpa using hqe
       have VH : V ((u,#[.int .i64 (pkN c).s,.int .i64 (pkN c).d,.int .i64 (pkN c).sp,.int .i64 (pkN c).dp],29) :: BX) (un Qc (one4 d (i : Int) ls T k [] (q : Int) c)) wa:=by
        rw [hqe,show_nil];exact VA
       clear hw hqe VA hp1 hp2 hp3 hp4;generalize one4 d (i : Int) ls T k [] (q : Int) c = R at *;generalize pkN c = pc at *;obtain ⟨a,b',c',e'⟩:=pc;dsimp only at *;go_wp2_with fail;go_loopw [23] (fun s23 wr=>s23 = .int .i64 0 /\ V ((u,#[.int .i64 a,.int .i64 b',.int .i64 c',.int .i64 e'],29) :: BX) (un Qc R) wr) (fun _ _=>0)
       case atStart=>exact ⟨rfl,VH⟩
       case round =>
        clear VH e1;obtain ⟨rfl,VH⟩:=hrel;go_wp2_with fail;go_loopw [25] (fun s25 wr=>s25 = .int .i64 0 /\ V ((u,#[.int .i64 a,.int .i64 b',.int .i64 c',.int .i64 e'],29) :: BX) (un Qc R) wr) (fun _ _=>0)
        case atStart=>exact ⟨rfl,VH⟩
        case round =>
         clear VH;obtain ⟨rfl,VZ⟩:=hrel;go_wp2_with fail;go_roundw
         case rel=>exact ⟨c + 1,by go_num,by omega,ST.out _ (H.out.less VZ (fun y hy=>List.mem_cons_of_mem _ hy))⟩
         case measure=>first | omega | (simp [intOf];omega) | simp [intOf]
theorem dev4t_any (V : Boxes -> PutS -> World -> Prop) (d : Dv) (i : Nat) (ls : List Lk) (T : Tab) (k : Int) (S nb sb kb mb b o n cap cl : Nat) (L : Option Addr) (cap' : Nat) (vb vr vt : Value) (Q0 : PutS) (w : World) (hop0 : (peerF ls (i : Int) 1).isSome = true) (hi : (i : Int) < (n : Int)) (hk : d.kind = 4)
  (H : Hid (DV V d i ls T k S nb sb kb mb (.agg #[.slice (some ⟨b,o,none⟩) n cap,.slice L cl cap']) vr vt)) (V0 : V [] Q0 w)
  (HD : Hid (∀ bx Q W,V bx Q W -> W.cell? ⟨b,o + i * 7,none⟩ = some (.string d.name) /\ W.cell? ⟨b,o + i * 7 + 1,none⟩ = some (.int .i64 d.kind) /\ W.cell? ⟨b,o + i * 7 + 2,none⟩ = some (.int .i64 d.addr) /\ W.cell? ⟨b,o + i * 7 + 3,none⟩ = some (.int .u8 (d.pool : Int)) /\ W.cell? ⟨b,o + i * 7 + 4,none⟩ = some vb /\ W.cell? ⟨b,o + i * 7 + 5,none⟩ = some vr /\ W.cell? ⟨b,o + i * 7 + 6,none⟩ = some vt))
  (hv : (∃ A n c,vb = .slice A n c) /\ (∃ A n c,vr = .slice A n c) /\ ∃ A n c,vt = .slice A n c)
  (n0 : Nat) (HL : Hid (DL V n0)) (ha : 0 <= d.addr /\ d.addr < 16) (hpl : d.pool < 256) :
  Calls Tryz.prog 38 #[.pointer (some ⟨S,0,none⟩),.agg #[.slice (some ⟨b,o,none⟩) n cap,.slice L cl cap'],.int .i64 (i : Int),.int .i64 k,.func (.func 36) #[] #[.pointer (some ⟨nb,0,none⟩),.pointer (some ⟨sb,0,none⟩),.pointer (some ⟨kb,0,none⟩),.pointer (some ⟨mb,0,none⟩)]] w fun e w'=>e = .returned (.tuple #[]) /\ ∃ os : List Pk,OwnL (i : Int) T k os /\ V [] (un Q0 (sumP ((2 : Nat) : Int) (one4 d (i : Int) ls T k os))) w':=by
 obtain ⟨⟨Ab,nbb,cb,rfl⟩,⟨Ar,nr,cr,rfl⟩,⟨At,nt,ct,rfl⟩⟩:=hv;have i0 : (0 : Int) <= (i : Int):=by omega
 have PO : Hid (∀ W : World,Calls Tryz.prog 19 #[.int .i64 4] W fun e w'=>e = .returned (.int .i64 2) /\ Below W.heap.size W w'):=fun W=>rports_any 4 W;have PK : Hid (∀ (c : Nat) (W : World),c < 16384 -> Calls Tryz.prog 21 #[.int .i64 (c : Int)] W fun e w'=>e = .returned (pkV (pkN c)) /\ Below W.heap.size W w'):=fun c W hc=>rpacket_any c W hc;have V1:=H.out.new V0 #[.slice (some ⟨b,o,none⟩) n cap,.slice L cl cap'] 25;obtain ⟨c0,c1,c2,c3,c4,c5,c6⟩:=HD.out _ _ _ V1;rw [hk] at c1;have N1:=(bk_new w #[.slice (some ⟨b,o,none⟩) n cap,.slice L cl cap'] 25);obtain ⟨n1,n2⟩:=N1.two;clear V0 HD N1;go_enter Tryz.func38,Tryz.ntmps38;go_upto_region 2 with fail;have V2:=H.out.new V1 #[.string d.name,.int .i64 4,.int .i64 d.addr,.int .u8 (d.pool : Int),.slice Ab nbb cb,.slice Ar nr cr,.slice At nt ct] 56;rw [World.size_alloc] at V2;clear V1 c0 c1 c2 c3 c4 c5 c6 n1 n2;generalize (w.alloc (.cells #[.slice (some ⟨b,o,none⟩) n cap,.slice L cl cap'] 25)).alloc (.cells #[.string d.name,.int .i64 4,.int .i64 d.addr,.int .u8 (d.pool : Int),.slice Ab nbb cb,.slice Ar nr cr,.slice At nt ct] 56) = w2 at *;generalize w.heap.size = y at *;obtain ⟨n1,n2⟩:=(H.out.get V2 (_,_,_) (List.mem_cons_of_mem _ List.mem_cons_self)).two;have PE:=H.out.peer V2 1;obtain ⟨p1,p2,hpl⟩ : ∃ p1 p2 : Int,placeV (peerF ls i 1) = .agg #[.int .i64 p1,.int .i64 p2]:=by cases peerF ls i 1 <;> exact ⟨_,_,rfl⟩
 rw [hpl] at PE;rw [hop0] at PE;clear hpl;go_wp2_with fail;refine PE.mono ?_;rintro e w3 ⟨rfl,V3⟩;clear PE V2 n1 n2;have V4:=H.out.new V3 #[.int .i64 p1,.int .i64 p2] 27;clear V3;go_upto_region 3 with fail;generalize w3.alloc (.cells #[.int .i64 p1,.int .i64 p2] 27) = w4 at *;generalize w3.heap.size = z at *;obtain ⟨BX,hBX⟩ : ∃ BX : Boxes,BX = [(z,#[.int .i64 p1,.int .i64 p2],27),(y + 1,#[.string d.name,.int .i64 4,.int .i64 d.addr,.int .u8 (d.pool : Int),.slice Ab nbb cb,.slice Ar nr cr,.slice At nt ct],56),(y,#[.slice (some ⟨b,o,none⟩) n cap,.slice L cl cap'],25)]:=⟨_,rfl⟩;rw [<- hBX] at V4;have BD : Hid (∀ {Q : PutS} {W : World},V BX Q W -> W.cell? ⟨y + 1,0,none⟩ = some (.string d.name) /\ W.cell? ⟨y + 1,1,none⟩ = some (.int .i64 4) /\ W.cell? ⟨y + 1,2,none⟩ = some (.int .i64 d.addr) /\ W.cell? ⟨y + 1,3,none⟩ = some (.int .u8 (d.pool : Int)) /\ W.cell? ⟨y + 1,4,none⟩ = some (.slice Ab nbb cb) /\ W.cell? ⟨y + 1,5,none⟩ = some (.slice Ar nr cr) /\ W.cell? ⟨y + 1,6,none⟩ = some (.slice At nt ct)):=fun {Q W} hv=>by
  rw [hBX] at hv;have B:=H.out.get hv (_,_,_) (List.mem_cons_of_mem _ List.mem_cons_self);exact ⟨B.at 0,B.at 1,B.at 2,B.at 3,B.at 4,B.at 5,B.at 6⟩
 have GP : Hid (∀ {x : Nat} {s0 s1 s2 s3 : Int} {bx : Boxes} {Q : PutS} {W : World},V ((x,#[.int .i64 s0,.int .i64 s1,.int .i64 s2,.int .i64 s3],29) :: bx) Q W -> W.cell? ⟨x,0,none⟩ = some (.int .i64 s0) /\ W.cell? ⟨x,1,none⟩ = some (.int .i64 s1) /\ W.cell? ⟨x,2,none⟩ = some (.int .i64 s2) /\ W.cell? ⟨x,3,none⟩ = some (.int .i64 s3)):=fun {x s0 s1 s2 s3 bx Q W} hv=>by
  obtain ⟨a0,a1,a2,a3,_⟩:=(H.out.get hv (_,_,_) List.mem_cons_self).four;exact ⟨a0,a1,a2,a3⟩
 have BT : Hid (∀ {y' : Nat × Array Value × TypeId} {Q : PutS} {W : World},V (y' :: BX) Q W -> V BX Q W):=fun {y' Q W} hv=>H.out.less hv (fun y hy=>List.mem_cons_of_mem _ hy);have HLT : Hid (∀ y' ∈ BX,y'.1 < w4.heap.size):=fun y' hy'=>(H.out.get V4 y' hy').lt;have hn0:=HL.out.up V4;have HA : Hid (∀ (b : Nat) (n : Int) (W : World),b < 65536 -> Calls Tryz.prog 77 #[.int .i64 (b : Int),.int .i64 n] W fun e w'=>e = .returned (.bool (hasB b n)) /\ w' = W):=fun b n W h=>rhas_int b n W h;have hpool : ∀ n : Int,0 <= n /\ n < 8 -> hasB d.pool n = poolB d n:=fun n hn=>by
  unfold hasB poolB poB;rw [show decide (n < 8) = true from decide_eq_true hn.2];simp
 have O1 : Hid (∃ (v : Value) (os : List Pk) (OB : Boxes),v = v):=⟨.slice none 0 0,[],[],rfl⟩;clear O1;generalize hhb : w4.heap.size = hb at *;have hhb' : hb <= w4.heap.size:=by omega
 clear hhb;obtain ⟨_,d1,_⟩:=BD.out V4;have OW0 : w4.ownsRow hb 29 4 (.slice none 0 0) 0 (pkRow []):=⟨by simp [pkRow],Or.inl ⟨rfl,rfl⟩⟩;go_wp2_with fail;go_loopw [13,14] (fun s13 s14 wr=>∃ (c : Nat) (os : List Pk) (A : Option Addr) (cap : Nat),s13 = .slice A os.length cap /\ s14 = .int .i64 (c : Int) /\ c <= 128 /\ os.length <= c /\ V BX Q0 wr /\ hb <= wr.heap.size /\ wr.ownsRow hb 29 4 (.slice A os.length cap) os.length (pkRow os) /\ Hid (OwnC (i : Int) T k c os)) (fun _ s14 _=>128 - (intOf s14).toNat)
 case atStart=>exact ⟨0,[],none,0,rfl,rfl,by omega,by simp,V4,hhb',OW0,own_start⟩
 case round =>
  clear V4 d1 OW0 hhb';obtain ⟨c,os,A,cpo,rfl,rfl,hc,hol,V5,hhb',OW,hO⟩:=hrel;obtain ⟨_,d1,_⟩:=BD.out V5;by_cases hlt : c < 128
  ·as_aux_lemma =>
    skip
    have c1 : (c : Int) < 128:=by omega
    have hnew:=H.out.new V5 #[.int .i64 ((c : Int) / 8),.int .i64 0,.int .i64 ((c : Int) % 8),.int .i64 0] 29;have es : ((c / 8 : Nat) : Int) = (c : Int) / 8:=by omega
    have ep : ((c % 8 : Nat) : Int) = (c : Int) % 8:=by omega
    have OWn:=own_keptS OW (KeptBS.of_below (Below.alN (Below.refl wr.heap.size wr) (.cells #[.int .i64 ((c : Int) / 8),.int .i64 0,.int .i64 ((c : Int) % 8),.int .i64 0] 29))) (fun g _=>by simp);have hne : Hid (∀ g,(Value.slice A os.length cpo).ownBlock = some g -> g ≠ wr.heap.size):=fun g hg=>by
     have:=(own_blockS OW hg).1;omega
    have hbx : Hid (∀ y' ∈ BX,y'.1 ≠ wr.heap.size):=fun y' hy'=>by
     have:=(H.out.get V5 y' hy').lt;omega
    obtain ⟨U,hU⟩ : ∃ U : Int -> Int -> World -> Prop,U = fun a' b' W=>V ((wr.heap.size,#[.int .i64 ((c : Int) / 8),.int .i64 a',.int .i64 ((c : Int) % 8),.int .i64 b'],29) :: BX) Q0 W /\ hb <= W.heap.size /\ W.ownsRow hb 29 4 (.slice A os.length cpo) os.length (pkRow os):=⟨_,rfl⟩;have U0 : U 0 0 (wr.alloc (.cells #[.int .i64 ((c : Int) / 8),.int .i64 0,.int .i64 ((c : Int) % 8),.int .i64 0] 29)):=by
     rw [hU];exact ⟨hnew,by simp;omega,OWn⟩
    have UG : Hid (∀ {a' b' : Int} {W : World},U a' b' W -> W.cell? ⟨wr.heap.size,0,none⟩ = some (.int .i64 ((c : Int) / 8)) /\ W.cell? ⟨wr.heap.size,1,none⟩ = some (.int .i64 a') /\ W.cell? ⟨wr.heap.size,2,none⟩ = some (.int .i64 ((c : Int) % 8)) /\ W.cell? ⟨wr.heap.size,3,none⟩ = some (.int .i64 b') /\ W.frozen? ⟨wr.heap.size,1,none⟩ = false /\ W.frozen? ⟨wr.heap.size,3,none⟩ = false):=fun {a' b' W} hu=>by
     rw [hU] at hu;obtain ⟨a0,a1,a2,a3,_,a4,_,a5⟩:=(H.out.get hu.1 (_,_,_) List.mem_cons_self).four;exact ⟨a0,a1,a2,a3,a4,a5⟩
    have US : Hid (∀ {a' b' : Int} {W : World} (a2 b2 : Int),U a' b' W -> U a2 b2 ((W.setCell ⟨wr.heap.size,1,none⟩ (.int .i64 a2)).setCell ⟨wr.heap.size,3,none⟩ (.int .i64 b2))):=fun {a' b' W} a2 b2 hu=>by
     rw [hU] at hu ⊢;obtain ⟨u1,u2,u3⟩:=hu;refine ⟨?_,?_,?_⟩
     ·exact H.out.set (H.out.set u1 hbx.out 1 (.int .i64 a2)) hbx.out 3 (.int .i64 b2)
     ·simpa [World.setCell] using u2
     ·exact own_keptS (own_keptS u3 (kept_setS _ _ _ _) (fun g hg e=>hne.out g hg (by simpa using e.symm))) (kept_setS _ _ _ _) (fun g hg e=>hne.out g hg (by simpa using e.symm))
    have UC : Hid (∀ {a' b' : Int} {W : World},pkOk ⟨(c : Int) / 8,a',(c : Int) % 8,b'⟩ = true -> U a' b' W -> Calls Tryz.prog 37 #[.agg #[.int .i64 ((c : Int) / 8),.int .i64 a',.int .i64 ((c : Int) % 8),.int .i64 b']] W fun e w'=>e = .returned (.int .i64 (codeN ⟨(c : Int) / 8,a',(c : Int) % 8,b'⟩ : Int)) /\ U a' b' w'):=fun {a' b' W} hp hu=>(rcode_any ⟨(c : Int) / 8,a',(c : Int) % 8,b'⟩ W hp).mono fun e w' ⟨e1,hb'⟩=>⟨e1,by
     rw [hU] at hu ⊢;obtain ⟨u1,u2,u3⟩:=hu;exact ⟨H.out.below u1 hb',Nat.le_trans u2 hb'.size,own_keptS u3 (KeptBS.of_below hb') (fun g _=>by simp)⟩⟩
    have UW : Hid (∀ {a' b' : Int} {W : World} (m : Nat),m < 16384 -> U a' b' W -> Calls Tryz.prog 73 #[.pointer (some ⟨S,0,none⟩),.int .i64 (i : Int),.int .i64 0,.int .i64 (m : Int),.int .i64 k] W fun e w'=>e = .returned (.bool (wasB T k ((i : Int),0) m)) /\ w' = W):=fun {a' b' W} m hm hu=>by
     rw [hU] at hu;exact H.out.was hu.1 0 m (by omega) (by rw [hk];show (0 : Int) < 2;omega) hm
    have UE : Hid (∀ {a' b' : Int} {W : World},U a' b' W -> V BX Q0 W /\ hb <= W.heap.size /\ W.ownsRow hb 29 4 (.slice A os.length cpo) os.length (pkRow os)):=fun {a' b' W} hu=>by
     rw [hU] at hu;exact ⟨BT.out hu.1,hu.2⟩
    have UA : Hid (∀ {a' b' : Int} {W : World},U a' b' W -> ∃ g cap W1,(Builtin.append_ #[149,149] 149 #[.slice A os.length cpo,.slice (some ⟨W.heap.size,0,none⟩) 1 1]).run Tryz.prog (W.alloc (.cells #[.int .i64 ((c : Int) / 8),.int .i64 a',.int .i64 ((c : Int) % 8),.int .i64 b'] 29)) = .ok (.slice (some ⟨g,0,none⟩) (os.length + 1) cap) W1 /\ V BX Q0 W1 /\ hb <= W1.heap.size /\ W1.ownsRow hb 29 4 (.slice (some ⟨g,0,none⟩) (os.length + 1) cap) (os.length + 1) (pkRow (os ++ [⟨(c : Int) / 8,a',(c : Int) % 8,b'⟩]))):=fun {a' b' W} hu=>by
     rw [hU] at hu;obtain ⟨u1,u2,u3⟩:=hu;obtain ⟨g,cap,W1,r1,r2,r3⟩:=own_appP u3 ⟨(c : Int) / 8,a',(c : Int) % 8,b'⟩ (by omega) u2;exact ⟨g,cap,W1,r1,HL.out.low (BT.out u1) hn0 HLT.out r3,Nat.le_trans u2 r3.size,r2⟩
    have HO1 : Hid ((∀ x : Nat,x < 128 -> wasB T k ((i : Int),0) (codeN ⟨(c : Int) / 8,((x / 8 : Nat) : Int),(c : Int) % 8,((x % 8 : Nat) : Int)⟩) = false) -> OwnC (i : Int) T k (c + 1) os):=fun h=>own_no hO.out (fun x hx=>by rw [es,ep];exact h x hx);have HO2 : Hid (∀ x : Nat,x < 128 -> wasB T k ((i : Int),0) (codeN ⟨(c : Int) / 8,((x / 8 : Nat) : Int),(c : Int) % 8,((x % 8 : Nat) : Int)⟩) = true -> OwnC (i : Int) T k (c + 1) (os ++ [⟨(c : Int) / 8,((x / 8 : Nat) : Int),(c : Int) % 8,((x % 8 : Nat) : Int)⟩])):=fun x hx hw=>by
     have:=own_yes hO.out hx (by rw [es,ep];exact hw);rw [es,ep] at this;exact this
    have hcs : 0 <= (c : Int) / 8 /\ (c : Int) / 8 < 16:=by omega
    have hcp : 0 <= (c : Int) % 8 /\ (c : Int) % 8 < 8:=by omega
    clear hU hnew OWn hne hbx V5 OW hO es ep;go_upto_region 8 with fail;generalize wr.alloc (.cells #[.int .i64 ((c : Int) / 8),.int .i64 0,.int .i64 ((c : Int) % 8),.int .i64 0] 29) = wk at *;generalize wr.heap.size = ob at *;generalize hcsl : (c : Int) / 8 = cs at *;generalize hcpl : (c : Int) % 8 = cp at *;clear hcsl hcpl d1;go_wp2_with fail;go_loopw [13,16] (fun s13 s16 wr=>∃ (x : Nat) (a' b' : Int),s13 = .slice A os.length cpo /\ s16 = .int .i64 (x : Int) /\ x <= 128 /\ U a' b' wr /\ Hid (∀ x' : Nat,x' < x -> wasB T k ((i : Int),0) (codeN ⟨cs,((x' / 8 : Nat) : Int),cp,((x' % 8 : Nat) : Int)⟩) = false)) (fun _ s16 _=>128 - (intOf s16).toNat)
    case atStart=>exact ⟨0,0,0,rfl,rfl,by omega,U0,fun x' h=>by omega⟩
    case round =>
     clear U0;obtain ⟨x,a',b',rfl,rfl,hx,U1,hN⟩:=hrel;by_cases hxl : x < 128
     ·have x1 : (x : Int) < 128:=by omega
      have ex : ((x / 8 : Nat) : Int) = (x : Int) / 8:=by omega
      have ey : ((x % 8 : Nat) : Int) = (x : Int) % 8:=by omega
      have hpo : pkOk ⟨cs,(x : Int) / 8,cp,(x : Int) % 8⟩ = true:=pk_made hcs (by dsimp only;omega) hcp (by dsimp only;omega);have hcl:=codeN_lt hpo;have HN0 : Hid (wasB T k ((i : Int),0) (codeN ⟨cs,(x : Int) / 8,cp,(x : Int) % 8⟩) = false -> ∀ x' : Nat,x' < x + 1 -> wasB T k ((i : Int),0) (codeN ⟨cs,((x' / 8 : Nat) : Int),cp,((x' % 8 : Nat) : Int)⟩) = false):=fun h x' hx'=>by
       by_cases e : x' = x
       ·subst e;rw [ex,ey];exact h
       ·exact hN.out x' (by omega)
      have HO3 : Hid (wasB T k ((i : Int),0) (codeN ⟨cs,(x : Int) / 8,cp,(x : Int) % 8⟩) = true -> OwnC (i : Int) T k (c + 1) (os ++ [⟨cs,(x : Int) / 8,cp,(x : Int) % 8⟩])):=fun h=>by
       have:=HO2.out x hxl (by rw [ex,ey];exact h);rw [ex,ey] at this;exact this
      have U2:=US.out ((x : Int) / 8) ((x : Int) % 8) U1;obtain ⟨g0,g1,g2,g3,g4,g5⟩:=UG.out U1;clear U1 hN ex ey;go_upto_region 12 with fail;generalize (wr.setCell ⟨ob,1,none⟩ (.int .i64 ((x : Int) / 8))).setCell ⟨ob,3,none⟩ (.int .i64 ((x : Int) % 8)) = wu at *;have CD:=UC.out hpo U2;obtain ⟨g0,g1,g2,g3,g4,g5⟩:=UG.out U2;generalize codeN ⟨cs,(x : Int) / 8,cp,(x : Int) % 8⟩ = m at *;generalize (x : Int) / 8 = xa at *;generalize (x : Int) % 8 = xb at *;clear hpo;go_wp2_with fail;refine CD.mono ?_;rintro e wv ⟨rfl,U3⟩;have WA:=UW.out m hcl U3;clear CD U2 g0 g1 g2 g3 g4 g5;generalize hwm : wasB T k ((i : Int),0) m = ww at *;clear hwm;cases ww with
      | false =>
        have HN1:=Hid.of (HN0.out rfl);clear HN0 HO3;go_wp2_with fail;refine WA.mono ?_;rintro e w' ⟨rfl,rfl⟩;clear WA;go_wp2_with fail;go_roundw
        case rel=>exact ⟨x + 1,xa,xb,rfl,by go_num,by omega,U3,HN1⟩
        case measure=>first | omega | (simp [intOf];omega) | simp [intOf]
      | true =>
        have HO4:=Hid.of (HO3.out rfl);clear HN0 HO3;go_upto_region 13 with (go_at_call 73;refine WA.mono ?_;rintro e w' ⟨rfl,rfl⟩)
        obtain ⟨g,cap2,W1,hrun,V6,hb6,OW6⟩:=UA.out U3;obtain ⟨g0,g1,g2,g3,g4,g5⟩:=UG.out U3
        iterate 10 go_step
        refine wpList_append_runS rfl _ _ 149 rfl _ _ _ _ rfl rfl hrun ?_;simp only [Act.put,List.setIfInBounds_toArray,List.set_cons_zero,List.set_cons_succ];have hl2 : os.length + 1 = (os ++ [(⟨cs,xa,cp,xb⟩ : Pk)]).length:=by simp
        have hl3 : (os ++ [(⟨cs,xa,cp,xb⟩ : Pk)]).length <= c + 1:=by simp;omega
        rw [hl2] at OW6 ⊢;clear hrun WA U3 g0 g1 g2 g3 g4 g5;go_wp2_with fail;go_roundw
        case rel=>exact ⟨c + 1,os ++ [⟨cs,xa,cp,xb⟩],some ⟨g,0,none⟩,cap2,rfl,by go_num,by omega,hl3,V6,hb6,OW6,HO4⟩
        case measure=>first | omega | (simp [intOf];omega) | simp [intOf]
     ·obtain rfl : x = 128:=by omega
      have HO4:=Hid.of (HO1.out hN.out);obtain ⟨V6,hb6,OW6⟩:=UE.out U1;clear U1 hN;go_wp2_with fail;go_roundw
      case rel=>exact ⟨c + 1,os,A,cpo,rfl,by go_num,by omega,by omega,V6,hb6,OW6,HO4⟩
      case measure=>first | omega | (simp [intOf];omega) | simp [intOf]
  ·have c129 : ¬ (c : Int) < 128:=by omega
   have HO5 : Hid (OwnC (i : Int) T k 128 os):=by
    have e : c = 128:=by omega
    rw [<- e];exact hO
   obtain ⟨OB,V6,HOB⟩:=own_box HL.out (fun h=>H.out.get h) V5 hn0 OW;have hol2 : os.length <= 128:=by omega
   have HOB:=Hid.of HOB;obtain ⟨BZ,hBZ⟩ : ∃ BZ : Boxes,BZ = OB ++ BX:=⟨_,rfl⟩;rw [<- hBZ] at V6 HOB;have BE : Hid (∀ {Q : PutS} {W : World},V BZ Q W -> W.cell? ⟨y + 1,0,none⟩ = some (.string d.name) /\ W.cell? ⟨y + 1,1,none⟩ = some (.int .i64 4) /\ W.cell? ⟨y + 1,2,none⟩ = some (.int .i64 d.addr) /\ W.cell? ⟨y + 1,3,none⟩ = some (.int .u8 (d.pool : Int))):=fun {Q W} hv=>by
    have:=BD.out (H.out.less hv (bx':=BX) (fun y hy=>by rw [hBZ];exact List.mem_append.2 (Or.inr hy)));exact ⟨this.1,this.2.1,this.2.2.1,this.2.2.2.1⟩
   have BU : Hid (∀ {y' : Nat × Array Value × TypeId} {Q : PutS} {W : World},V (y' :: BZ) Q W -> V BZ Q W):=fun {y' Q W} hv=>H.out.less hv (fun y hy=>List.mem_cons_of_mem _ hy);have HND : Hid (∀ {Q : PutS} {W : World},V BZ Q W -> V [] Q W):=fun hv=>H.out.less hv (fun y hy=>by cases hy);obtain ⟨_,e1,_⟩:=BE.out V6;clear V5 OW hBZ BD BT HLT hn0 hhb' hBX HL;have HA1 : Hid (OwnL (i : Int) T k os):=own_all HO5.out;have HOS : Hid (∀ o ∈ os,(0 <= o.s /\ o.s < 16) /\ (0 <= o.sp /\ o.sp < 8)):=fun o ho=>by
    obtain ⟨y,h1,h2,h3,_⟩:=HO5.out.1 o ho;rw [h2,h3];omega
   clear hO HO5;go_wp2_with fail;go_loopw [17] (fun s wr=>∃ q : Nat,s = .int .i64 (q : Int) /\ q <= 2 /\ V BZ (un Q0 (partQ (one4 d (i : Int) ls T k os) q 0)) wr) (fun s _=>2 - (intOf s).toNat)
   case atStart=>exact ⟨0,rfl,by omega,by rw [un_start];exact V6⟩
   case round =>
    clear V6 e1;obtain ⟨q,rfl,hq,V6⟩:=hrel;obtain ⟨_,e1,_⟩:=BE.out V6;go_wp2_with fail;refine (PO.out _).mono ?_;rintro e w6 ⟨rfl,hb6⟩;have V7:=H.out.below V6 hb6;clear V6 hb6 e1;by_cases hqP : q < 2
    rotate_left
    ·obtain rfl : q = 2:=by omega
     have V8:=H.out.less V7 (bx':=[]) (fun y hy=>by cases hy);rw [un_end] at V8;clear V7;go_wp2_with fail
     go_returns
     exact ⟨rfl,os,HA1.out,V8⟩
    have q1 : (q : Int) < 2:=by omega
    go_wp2_with fail;go_loopw [18] (fun s wr=>∃ c : Nat,s = .int .i64 (c : Int) /\ c <= 16384 /\ V BZ (un Q0 (partQ (one4 d (i : Int) ls T k os) q c)) wr) (fun s _=>16384 - (intOf s).toNat)
    case atStart=>exact ⟨0,rfl,by omega,V7⟩
    case round =>
     clear V7;obtain ⟨c,rfl,hc,V8⟩:=hrel;by_cases hlt : c < 16384
     rotate_left
     ·obtain rfl : c = 16384:=by omega
      rw [un_row] at V8;go_wp2_with fail;go_roundw
      case rel=>exact ⟨q + 1,by go_num,by omega,V8⟩
      case measure=>first | omega | (simp [intOf];omega) | simp [intOf]
     have c1 : (c : Int) < 16384:=by omega
     have WA:=H.out.was V8 (q : Int) c (by omega) (by rw [hk];show (q : Int) < 2;omega) hlt;have ST : Hid (∀ W,V BZ (un (un Q0 (partQ (one4 d (i : Int) ls T k os) q c)) ((one4 d (i : Int) ls T k os) (q : Int) c)) W -> V BZ (un Q0 (partQ (one4 d (i : Int) ls T k os) q (c + 1))) W):=fun W h=>by rw [un_step hlt] at h;exact h
     generalize un Q0 (partQ (one4 d (i : Int) ls T k os) q c) = Qc at *;cases hw : wasB T k ((i : Int),(q : Int)) c with
     | false =>
       rw [hw] at WA;have V9 : V BZ (un Qc ((one4 d (i : Int) ls T k os) (q : Int) c)) wr:=by
        rw [one4_was hw];exact V8
       clear hw;go_wp2_with fail;refine WA.mono ?_;rintro e w' ⟨rfl,rfl⟩;clear WA;go_wp2_with fail;go_roundw
       case rel=>exact ⟨c + 1,by go_num,by omega,ST.out _ V9⟩
       case measure=>first | omega | (simp [intOf];omega) | simp [intOf]
     | true =>
       rw [hw] at WA;go_wp2_with fail;refine WA.mono ?_;rintro e w' ⟨rfl,rfl⟩;clear WA;go_wp2_with fail;refine (PK.out c _ hlt).mono ?_;rintro e w9 ⟨rfl,hb9⟩;have V9:=H.out.below V8 hb9;have VA:=H.out.new V9 #[.int .i64 (pkN c).s,.int .i64 (pkN c).d,.int .i64 (pkN c).sp,.int .i64 (pkN c).dp] 29;clear V8 V9 hb9;go_upto_region 22 with fail;generalize w9.alloc (.cells #[.int .i64 (pkN c).s,.int .i64 (pkN c).d,.int .i64 (pkN c).sp,.int .i64 (pkN c).dp] 29) = wa at *;generalize w9.heap.size = u at *;have hpc:=pkN_ok hlt;obtain ⟨hp1,hp2,hp3,hp4⟩:=pk_bounds hpc;obtain ⟨_,e1,_⟩:=BE.out (BU.out VA);obtain hqe | hqe : (q : Int) = 0 ∨ (q : Int) = 1:=by omega
       ·as_aux_lemma =>
         have f0 : ((q : Int) == 0) = true:=by simpa using hqe
         have f1 : ((q : Int) == 1) = false:=by simp [hqe]
         have PX : Hid (∀ {bx : Boxes} {Q : PutS} {W : World} (x : Nat),x < 8 -> V bx Q W -> Calls Tryz.prog 36 #[.int .i64 (i : Int),.int .i64 1,.agg #[.int .i64 d.addr,.int .i64 (pkN c).d,.int .i64 (x : Int),.int .i64 (pkN c).dp],.pointer (some ⟨nb,0,none⟩),.pointer (some ⟨sb,0,none⟩),.pointer (some ⟨kb,0,none⟩),.pointer (some ⟨mb,0,none⟩)] W fun e w'=>e = .returned (.tuple #[]) /\ V bx (addP Q (peerF ls (i : Int) 1) (codeN ⟨d.addr,(pkN c).d,(x : Int),(pkN c).dp⟩)) w'):=fun x hx h=>H.out.put h 1 ⟨d.addr,(pkN c).d,(x : Int),(pkN c).dp⟩ (pk_made ha hp2 (by dsimp only;omega) hp4);have HY : Hid (∀ x : Nat,poolB d (x : Int) = true -> addP (un Qc (hideS d (i : Int) ls (pkN c) x)) (peerF ls (i : Int) 1) (codeN ⟨d.addr,(pkN c).d,(x : Int),(pkN c).dp⟩) = un Qc (hideS d (i : Int) ls (pkN c) (x + 1))):=fun x h=>hide_yes h;have HF : Hid (∀ x : Nat,poolB d (x : Int) = false -> un Qc (hideS d (i : Int) ls (pkN c) (x + 1)) = un Qc (hideS d (i : Int) ls (pkN c) x)):=fun x h=>hide_no h;have HE : Hid (un Qc (hideS d (i : Int) ls (pkN c) 8) = un Qc (one4 d (i : Int) ls T k os (q : Int) c)):=by
          rw [hqe] at hw ⊢;exact hide_end hw
         have VB : V ((u,#[.int .i64 (pkN c).s,.int .i64 (pkN c).d,.int .i64 (pkN c).sp,.int .i64 (pkN c).dp],29) :: BZ) (un Qc (hideS d (i : Int) ls (pkN c) 0)) wa:=by rw [hide_start];exact VA
         clear hw hqe VA hp1 hp2 hp3 hp4 HOB;generalize hideS d (i : Int) ls (pkN c) = hS at *;generalize one4 d (i : Int) ls T k os (q : Int) c = R at *;generalize pkN c = pc at *;obtain ⟨a,b',c',e'⟩:=pc;dsimp only at *;go_wp2_with fail;go_loopw [23] (fun s23 wr=>∃ x : Nat,s23 = .int .i64 (x : Int) /\ x <= 8 /\ V ((u,#[.int .i64 a,.int .i64 b',.int .i64 c',.int .i64 e'],29) :: BZ) (un Qc (hS x)) wr) (fun s23 _=>8 - (intOf s23).toNat)
         case atStart=>exact ⟨0,rfl,by omega,VB⟩
         case round =>
          clear VB e1;obtain ⟨x,rfl,hx,VC⟩:=hrel;obtain ⟨e0,e1,e2,e3⟩:=BE.out (BU.out VC);by_cases hx8 : x < 8
          ·have y8 : (x : Int) < 8:=by omega
           have HAx:=HA.out d.pool (x : Int) wr (by omega);rw [hpool (x : Int) (by omega)] at HAx;have HFx:=Hid.of (HF.out x);have HYx:=Hid.of (HY.out x);have PXx : Hid (∀ {bx : Boxes} {Q : PutS} {W : World},V bx Q W -> Calls Tryz.prog 36 #[.int .i64 (i : Int),.int .i64 1,.agg #[.int .i64 d.addr,.int .i64 b',.int .i64 (x : Int),.int .i64 e'],.pointer (some ⟨nb,0,none⟩),.pointer (some ⟨sb,0,none⟩),.pointer (some ⟨kb,0,none⟩),.pointer (some ⟨mb,0,none⟩)] W fun e w'=>e = .returned (.tuple #[]) /\ V bx (addP Q (peerF ls (i : Int) 1) (codeN ⟨d.addr,b',(x : Int),e'⟩)) w'):=fun h=>PX.out x hx8 h;generalize codeN ⟨d.addr,b',(x : Int),e'⟩ = cx at *;generalize poolB d (x : Int) = pb at *;cases pb with
           | false =>
             have HFy:=Hid.of (HFx.out rfl);clear HFx HYx PXx;go_wp2_with fail;refine HAx.mono ?_;rintro e w' ⟨rfl,rfl⟩;clear HAx;go_wp2_with fail;go_roundw
             case rel=>exact ⟨x + 1,by go_num,by omega,by rw [HFy.out];exact VC⟩
             case measure=>first | omega | (simp [intOf];omega) | simp [intOf]
           | true =>
             have HYy:=Hid.of (HYx.out rfl);clear HFx HYx;have VD:=H.out.new VC #[.int .i64 a,.int .i64 b',.int .i64 c',.int .i64 e'] 29;have VN:=H.out.new VC #[.int .i64 d.addr,.int .i64 b',.int .i64 (x : Int),.int .i64 e'] 29;obtain ⟨x0,x1,x2,x3⟩:=GP.out VC;obtain ⟨_,_,f2,_⟩:=BE.out (BU.out (H.out.less VD (bx':=((u,#[.int .i64 a,.int .i64 b',.int .i64 c',.int .i64 e'],29) :: BZ)) (fun y hy=>List.mem_cons_of_mem _ hy)));go_upto_region 40 with (go_at_call 77;refine HAx.mono ?_;rintro e w' ⟨rfl,rfl⟩)
             generalize wr.alloc (.cells #[.int .i64 d.addr,.int .i64 b',.int .i64 (x : Int),.int .i64 e'] 29) = wn at *;generalize wr.heap.size = z4 at *;obtain ⟨g0,g1,g2,g3⟩:=GP.out VN;clear VC VD HAx x0 x1 x2 x3 f2 e0 e1 e2 e3;go_wp2_with fail;refine (PXx.out VN).mono ?_;rintro e wm ⟨rfl,VM⟩;have VZ:=H.out.less VM (bx':=((u,#[.int .i64 a,.int .i64 b',.int .i64 c',.int .i64 e'],29) :: BZ)) (fun y hy=>List.mem_cons_of_mem _ hy);rw [HYy.out] at VZ;clear VN VM g0 g1 g2 g3 PXx;go_wp2_with fail;go_roundw
             case rel=>exact ⟨x + 1,by go_num,by omega,VZ⟩
             case measure=>first | omega | (simp [intOf];omega) | simp [intOf]
          ·obtain rfl : x = 8:=by omega
           have VH:=VC;rw [HE.out] at VH;clear VC HE HF HY PX e0 e1 e2 e3;go_wp2_with fail;go_loopw [25] (fun s25 wr=>s25 = .int .i64 0 /\ V ((u,#[.int .i64 a,.int .i64 b',.int .i64 c',.int .i64 e'],29) :: BZ) (un Qc R) wr) (fun _ _=>0)
           case atStart=>exact ⟨rfl,VH⟩
           case round =>
            clear VH;obtain ⟨rfl,VZ⟩:=hrel;by_cases hlo : (0 : Int) < (os.length : Int)
            ·go_wp2_with fail;go_roundw
             case rel=>exact ⟨c + 1,by go_num,by omega,ST.out _ (H.out.less VZ (fun y hy=>List.mem_cons_of_mem _ hy))⟩
             case measure=>first | omega | (simp [intOf];omega) | simp [intOf]
            ·go_wp2_with fail;go_roundw
             case rel=>exact ⟨c + 1,by go_num,by omega,ST.out _ (H.out.less VZ (fun y hy=>List.mem_cons_of_mem _ hy))⟩
             case measure=>first | omega | (simp [intOf];omega) | simp [intOf]
       ·as_aux_lemma =>
         have f0 : ((q : Int) == 0) = false:=by simp [hqe]
         have f1 : ((q : Int) == 1) = true:=by simpa using hqe
         have PX : Hid (∀ {bx : Boxes} {Q : PutS} {W : World} (o : Pk),(0 <= o.s /\ o.s < 16) -> (0 <= o.sp /\ o.sp < 8) -> V bx Q W -> Calls Tryz.prog 36 #[.int .i64 (i : Int),.int .i64 0,.agg #[.int .i64 (pkN c).s,.int .i64 o.s,.int .i64 (pkN c).sp,.int .i64 o.sp],.pointer (some ⟨nb,0,none⟩),.pointer (some ⟨sb,0,none⟩),.pointer (some ⟨kb,0,none⟩),.pointer (some ⟨mb,0,none⟩)] W fun e w'=>e = .returned (.tuple #[]) /\ V bx (addP Q (peerF ls (i : Int) 0) (codeN ⟨(pkN c).s,o.s,(pkN c).sp,o.sp⟩)) w'):=fun o h1 h2 h=>H.out.put h 0 ⟨(pkN c).s,o.s,(pkN c).sp,o.sp⟩ (pk_made hp1 h1 hp3 h2);have HY : Hid (∀ (x : Nat) (o : Pk),os[x]? = some o -> addP (un Qc (showS (i : Int) ls os (pkN c) x)) (peerF ls (i : Int) 0) (codeN ⟨(pkN c).s,o.s,(pkN c).sp,o.sp⟩) = un Qc (showS (i : Int) ls os (pkN c) (x + 1))):=fun x o h=>show_step h;have HE : Hid ((pkN c).d = d.addr -> poolB d (pkN c).dp = true -> un Qc (showS (i : Int) ls os (pkN c) os.length) = un Qc (one4 d (i : Int) ls T k os (q : Int) c)):=fun h1 h2=>by
          rw [hqe] at hw ⊢;exact show_end hw h1 h2
         have HF : Hid (¬ ((pkN c).d = d.addr /\ poolB d (pkN c).dp = true) -> un Qc (one4 d (i : Int) ls T k os (q : Int) c) = Qc):=fun h=>by
          rw [hqe];exact show_no h
         have HS0 : Hid (un Qc (showS (i : Int) ls os (pkN c) 0) = Qc):=show_start;have HAp:=HA.out d.pool (pkN c).dp;rw [hpool (pkN c).dp hp4] at HAp;have HAp : Hid (∀ W : World,Calls Tryz.prog 77 #[.int .i64 (d.pool : Int),.int .i64 (pkN c).dp] W fun e w'=>e = .returned (.bool (poolB d (pkN c).dp)) /\ w' = W):=fun W=>HAp W (by omega);clear hw hqe hp1 hp2 hp3 hp4;generalize showS (i : Int) ls os (pkN c) = hS at *;generalize one4 d (i : Int) ls T k os (q : Int) c = R at *;generalize poolB d (pkN c).dp = pb at *;generalize pkN c = pc at *;obtain ⟨a,b',c',e'⟩:=pc;dsimp only at *;go_wp2_with fail;go_loopw [23] (fun s23 wr=>s23 = .int .i64 0 /\ V ((u,#[.int .i64 a,.int .i64 b',.int .i64 c',.int .i64 e'],29) :: BZ) Qc wr) (fun _ _=>0)
         case atStart=>exact ⟨rfl,VA⟩
         case round =>
          clear VA e1;obtain ⟨rfl,VC⟩:=hrel;by_cases hgd : b' = d.addr /\ pb = true
          ·obtain ⟨hgd1,rfl⟩:=hgd;have fd : (b' == d.addr) = true:=by simpa using hgd1
           have HE1:=Hid.of (HE.out hgd1 rfl);have VB : V ((u,#[.int .i64 a,.int .i64 b',.int .i64 c',.int .i64 e'],29) :: BZ) (un Qc (hS 0)) wr:=by rw [HS0.out];exact VC
           clear HE HF HS0 VC hgd1;go_wp2_with fail;go_loopw [25] (fun s25 wr=>∃ x : Nat,s25 = .int .i64 (x : Int) /\ x <= os.length /\ V ((u,#[.int .i64 a,.int .i64 b',.int .i64 c',.int .i64 e'],29) :: BZ) (un Qc (hS x)) wr) (fun s25 _=>os.length - (intOf s25).toNat)
           case atStart=>exact ⟨0,rfl,by omega,VB⟩
           case round =>
            clear VB;obtain ⟨x,rfl,hx,VC⟩:=hrel;by_cases hxl : x < os.length
            ·have y8 : (x : Int) < (os.length : Int):=by omega
             have y0 : (0 : Int) <= (x : Int):=by omega
             obtain ⟨o,ho⟩ : ∃ o,os[x]? = some o:=⟨_,List.getElem?_eq_getElem hxl⟩;have HYx:=Hid.of (HY.out x o ho);have hob:=HOS.out o (List.mem_of_getElem? ho);have PXx : Hid (∀ {bx : Boxes} {Q : PutS} {W : World},V bx Q W -> Calls Tryz.prog 36 #[.int .i64 (i : Int),.int .i64 0,.agg #[.int .i64 a,.int .i64 o.s,.int .i64 c',.int .i64 o.sp],.pointer (some ⟨nb,0,none⟩),.pointer (some ⟨sb,0,none⟩),.pointer (some ⟨kb,0,none⟩),.pointer (some ⟨mb,0,none⟩)] W fun e w'=>e = .returned (.tuple #[]) /\ V bx (addP Q (peerF ls (i : Int) 0) (codeN ⟨a,o.s,c',o.sp⟩)) w'):=fun h=>PX.out o hob.1 hob.2 h;have HO : Hid (∀ (Q' : PutS) (W' : World) (bx : Boxes),(∀ y ∈ BZ,y ∈ bx) -> V bx Q' W' -> ∃ g,A = some ⟨g,0,none⟩ /\ W'.cell? ⟨g,x * 4,none⟩ = some (.int .i64 o.s) /\ W'.cell? ⟨g,x * 4 + 2,none⟩ = some (.int .i64 o.sp)):=fun Q' W' bx=>HOB.out Q' W' bx x o ho;generalize codeN ⟨a,o.s,c',o.sp⟩ = cx at *;generalize o.s = os1 at *;generalize o.sp = os2 at *;clear ho hob;obtain ⟨g,rfl,_⟩:=HO.out _ _ _ (fun y hy=>List.mem_cons_of_mem _ hy) VC;have HO : Hid (∀ {Q' : PutS} {W' : World} {y' : Nat × Array Value × TypeId},V (y' :: ((u,#[.int .i64 a,.int .i64 b',.int .i64 c',.int .i64 e'],29) :: BZ)) Q' W' -> W'.cell? ⟨g,x * 4,none⟩ = some (.int .i64 os1) /\ W'.cell? ⟨g,x * 4 + 2,none⟩ = some (.int .i64 os2)):=fun {Q' W' y'} hv=>by
              obtain ⟨g',e,r⟩:=HO.out Q' W' _ (fun y hy=>List.mem_cons_of_mem _ (List.mem_cons_of_mem _ hy)) hv;cases e;exact r
             obtain ⟨e0,e1,e2,e3⟩:=BE.out (BU.out VC);obtain ⟨x0,x1,x2,x3⟩:=GP.out VC;have HNE : Hid (∀ y ∈ ((u,#[.int .i64 a,.int .i64 b',.int .i64 c',.int .i64 e'],29) :: BZ),y.1 ≠ wr.heap.size):=fun y' hy'=>by
              have:=(H.out.get VC y' hy').lt;omega
             have VN:=H.out.below (H.out.new VC #[.int .i64 a,.int .i64 b',.int .i64 c',.int .i64 e'] 29) (Below.refl _ _).drew;go_upto_region 45 with (go_at_call 77;refine (HAp.out _).mono ?_;rintro e w' ⟨rfl,hww⟩;obtain rfl:=hww.symm)
             generalize wr.alloc (.cells #[.int .i64 a,.int .i64 b',.int .i64 c',.int .i64 e'] 29) = wn at *;generalize wr.heap.size = z4 at *;clear VC e0 e1 e2 e3 x0 x1 x2 x3;have VP:=H.out.set VN HNE.out 1 (.int .i64 os1);have VQ:=H.out.set VP HNE.out 3 (.int .i64 os2);rw [show (((#[.int .i64 a,.int .i64 b',.int .i64 c',.int .i64 e'] : Array Value).setIfInBounds 1 (.int .i64 os1)).setIfInBounds 3 (.int .i64 os2)) = #[.int .i64 a,.int .i64 os1,.int .i64 c',.int .i64 os2] from rfl] at VQ;rw [show ((#[.int .i64 a,.int .i64 b',.int .i64 c',.int .i64 e'] : Array Value).setIfInBounds 1 (.int .i64 os1)) = #[.int .i64 a,.int .i64 os1,.int .i64 c',.int .i64 e'] from rfl] at VP;obtain ⟨_,g1,_,g3,_,h1,_,h3⟩:=(H.out.get VN (_,_,_) List.mem_cons_self).four;obtain ⟨_,k1,_,k3,_,l1,_,l3⟩:=(H.out.get VP (_,_,_) List.mem_cons_self).four;have S1:=HO.out VN;have S2:=HO.out VP;have VQ : V ((z4,#[.int .i64 a,.int .i64 os1,.int .i64 c',.int .i64 os2],29) :: ((u,#[.int .i64 a,.int .i64 b',.int .i64 c',.int .i64 e'],29) :: BZ)) (un Qc (hS x)) ((wn.setCell ⟨z4,1,none⟩ (.int .i64 os1)).setCell ⟨z4,3,none⟩ (.int .i64 os2)).drew:=VQ;have S3:=HO.out VQ;have g3' : wn.cell? ⟨z4,3,none⟩ = some (.int .i64 e'):=g3;have h3' : wn.frozen? ⟨z4,3,none⟩ = false:=h3;have g1' : wn.cell? ⟨z4,1,none⟩ = some (.int .i64 b'):=g1;have h1' : wn.frozen? ⟨z4,1,none⟩ = false:=h1;refine wp_region_held_drew (S:=fun W'=>W'.cell? ⟨g,x * 4,none⟩ = some (.int .i64 os1) /\ W'.cell? ⟨g,x * 4 + 2,none⟩ = some (.int .i64 os2)) (by kernel_rfl) S1 (fun hHeld=>?_);refine tk 0 ?_;try simp only [ly]
             refine tk 1 ?_;try simp only [ly]
             refine tk 2 ?_;try simp only [ly]
             refine tk 3 ?_;try simp only [ly]
             refine tk 4 ?_;try simp only [ly]
             refine tk 5 ?_;try simp only [ly]
             refine tk 6 ?_;try simp only [ly]
             refine tk 7 ?_;try simp only [ly]
             refine tk 8 ?_;try simp only [ly]
             refine tk 9 ?_;try simp only [ly]
             refine tk 10 ?_;try simp only [ly]
             refine rd 11 (fun K hK=>?_);go_simp;clear hHeld;refine hK.out _ _ S2 (fun hHeld=>?_);clear hK K;try simp only [ly]
             refine tk 12 ?_;try simp only [ly]
             refine rd 13 (fun K hK=>?_);go_simp;clear hHeld;refine hK.out _ _ S3 (fun hHeld=>?_);clear hK K;refine wpAnyH_done (by kernel_rfl) ?_ _;generalize ((wn.setCell ⟨z4,1,none⟩ (.int .i64 os1)).setCell ⟨z4,3,none⟩ (.int .i64 os2)).drew = wq at *;obtain ⟨m0,m1,m2,m3⟩:=GP.out VQ;clear VN VP S1 S2 S3 g1 g3 h1 h3 k1 k3 l1 l3 g1' g3' h1' h3';go_wp2_with fail;refine (PXx.out VQ).mono ?_;rintro e wm ⟨rfl,VM⟩;have VZ:=H.out.less VM (bx':=((u,#[.int .i64 a,.int .i64 b',.int .i64 c',.int .i64 e'],29) :: BZ)) (fun y hy=>List.mem_cons_of_mem _ hy);rw [HYx.out] at VZ;clear VQ VM m0 m1 m2 m3 PXx HO HNE;go_wp2_with fail;go_roundw
             case rel=>exact ⟨x + 1,by go_num,by omega,VZ⟩
             case measure=>first | omega | (simp [intOf];omega) | simp [intOf]
            ·obtain rfl : x = os.length:=by omega
             have VZ:=VC;rw [HE1.out] at VZ;have hno : ¬ (os.length : Int) < (os.length : Int):=by omega
             clear VC HE1 HY PX;go_wp2_with fail;go_roundw
             case rel=>exact ⟨c + 1,by go_num,by omega,ST.out _ (H.out.less VZ (fun y hy=>List.mem_cons_of_mem _ hy))⟩
             case measure=>first | omega | (simp [intOf];omega) | simp [intOf]
          ·have VH : V ((u,#[.int .i64 a,.int .i64 b',.int .i64 c',.int .i64 e'],29) :: BZ) (un Qc R) wr:=by rw [HF.out hgd];exact VC
           clear HE HF HS0 HY PX VC;go_wp2_with fail;go_loopw [25] (fun s25 wr=>s25 = .int .i64 0 /\ V ((u,#[.int .i64 a,.int .i64 b',.int .i64 c',.int .i64 e'],29) :: BZ) (un Qc R) wr) (fun _ _=>0)
           case atStart=>exact ⟨rfl,VH⟩
           case round =>
            clear VH;obtain ⟨rfl,VZ⟩:=hrel;obtain ⟨e0,e1,e2,e3⟩:=BE.out (BU.out VZ);obtain ⟨x0,x1,x2,x3⟩:=GP.out VZ;by_cases hlo : (0 : Int) < (os.length : Int)
            ·cases hfd : (b' == d.addr) with
             | false =>
               clear hgd;go_wp2_with fail;go_roundw
               case rel=>exact ⟨c + 1,by go_num,by omega,ST.out _ (H.out.less VZ (fun y hy=>List.mem_cons_of_mem _ hy))⟩
               case measure=>first | omega | (simp [intOf];omega) | simp [intOf]
             | true =>
               have hpf : pb = false:=by
                have h1 : b' = d.addr:=by simpa using hfd
                cases pb
                ·rfl
                ·exact absurd ⟨h1,rfl⟩ hgd
               subst hpf;clear hgd;go_wp2_with fail;refine (HAp.out _).mono ?_;rintro e w' ⟨rfl,rfl⟩;go_wp2_with fail;go_roundw
               case rel=>exact ⟨c + 1,by go_num,by omega,ST.out _ (H.out.less VZ (fun y hy=>List.mem_cons_of_mem _ hy))⟩
               case measure=>first | omega | (simp [intOf];omega) | simp [intOf]
            ·clear hgd;go_wp2_with fail;go_roundw
             case rel=>exact ⟨c + 1,by go_num,by omega,ST.out _ (H.out.less VZ (fun y hy=>List.mem_cons_of_mem _ hy))⟩
             case measure=>first | omega | (simp [intOf];omega) | simp [intOf]
 end Go.Proofs.YtppbfikimalojaaGreat
