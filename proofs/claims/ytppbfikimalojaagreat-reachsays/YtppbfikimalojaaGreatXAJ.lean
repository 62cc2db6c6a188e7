/-
  XAJ.
-/
import Derived.Test.YtppbfikimalojaaGreatXAI
import Derived.Lib.Bytealg
import Derived.Deep.MidRow
import Derived.Deep.DeepCutAuto
import Derived.BigQuiet
import Derived.ChangeKeysEq
import Derived.Test.YtppbfikimalojaaGreatXLy
set_option maxHeartbeats 8000000
set_option maxRecDepth 100000
namespace Go.Proofs.YtppbfikimalojaaGreat
open Go.RowKit
theorem place_eq (a b c d : Int) (w : World) : (binOp .eql 27 (plA a b) (plA c d)).run Tryz.prog w = .ok (.bool ((a == c) && (b == d))) w:=by
 cases h1 : (a == c) <;> cases h2 : (b == d)
 all_goals simp [go_sem,Tryz.underlying27,Tryz.underlying3,h1,h2]
theorem Box2.drew {w : World} {n : Nat} {x y : Value} (h : Box2 w n x y) : Box2 w.drew n x y:=h
def Lk4 (w : World) (n : Nat) (a b c d : Value) : Prop:=n < w.heap.size /\ w.cell? ⟨n,0,none⟩ = some a /\ w.cell? ⟨n,1,none⟩ = some b /\ w.cell? ⟨n,2,none⟩ = some c /\ w.cell? ⟨n,3,none⟩ = some d
theorem lk4_new (w : World) (a b c d : Value) (t : TypeId) : Lk4 (w.alloc (.cells #[a,b,c,d] t)) w.heap.size a b c d:=⟨by simp,by simp [go_sem],by simp [go_sem],by simp [go_sem],by simp [go_sem]⟩
theorem Lk4.below {B : Nat} {W w' : World} {n : Nat} {a b c d : Value} (h : Lk4 W n a b c d) (hb : Below B W w') (hB : n < B) : Lk4 w' n a b c d:=by
 obtain ⟨h0,h1,h2,h3,h4⟩:=h;exact ⟨Nat.lt_of_lt_of_le h0 hb.size,(hb.cell (p:=⟨n,0,none⟩) hB).trans h1,(hb.cell (p:=⟨n,1,none⟩) hB).trans h2,(hb.cell (p:=⟨n,2,none⟩) hB).trans h3,(hb.cell (p:=⟨n,3,none⟩) hB).trans h4⟩
theorem Lk4.alloc {w : World} {n : Nat} {a b c d : Value} (h : Lk4 w n a b c d) (o : Obj) : Lk4 (w.alloc o) n a b c d:=h.below ((Below.refl _ _).alloc (Nat.le_refl _) o) h.1
theorem Lk4.drew {w : World} {n : Nat} {a b c d : Value} (h : Lk4 w n a b c d) : Lk4 w.drew n a b c d:=h
theorem peer_any (vd : Value) (A : Option Addr) (n cap : Nat) (ls : List Lk) (d p : Int) (w : World) (hL : Hid (Links w.heap.size w (.slice A n cap) ls)) :
  Calls Tryz.prog 67 #[.agg #[vd,.slice A n cap],plA d p] w fun e w'=>e = .returned (.tuple #[placeV (peerF ls d p),.bool (peerF ls d p).isSome]) /\ Below w.heap.size w w':=by
 obtain ⟨rfl,hc,hm⟩:=hL.out.len;unfold maxLen at hm;have D1:=Below.alN (Below.refl w.heap.size w) (.cells #[vd,.slice A ls.length cap] 25);have D2:=Below.alN D1 (.cells #[.int .i64 d,.int .i64 p] 27);have D3:=Below.alN D2 (.cells #[.int .i64 0,.int .i64 0] 27);have B1:=((box2_new w vd (.slice A ls.length cap) 25).alloc (.cells #[.int .i64 d,.int .i64 p] 27)).alloc (.cells #[.int .i64 0,.int .i64 0] 27);have B2:=(box2_new (w.alloc (.cells #[vd,.slice A ls.length cap] 25)) (.int .i64 d) (.int .i64 p) 27).alloc (.cells #[.int .i64 0,.int .i64 0] 27);have B3:=box2_new ((w.alloc (.cells #[vd,.slice A ls.length cap] 25)).alloc (.cells #[.int .i64 d,.int .i64 p] 27)) (.int .i64 0) (.int .i64 0) 27;simp only [World.size_alloc] at B2 B3;go_enter Tryz.func67,Tryz.ntmps67;go_wp2_with fail;go_loopw [11] (fun i wr=>∃ k : Nat,i = .int .i64 (k : Int) /\ k <= ls.length /\ Below w.heap.size w wr /\ Box2 wr w.heap.size vd (.slice A ls.length cap) /\ Box2 wr (w.heap.size + 1) (.int .i64 d) (.int .i64 p) /\ Box2 wr (w.heap.size + 1 + 1) (.int .i64 0) (.int .i64 0) /\ Hid (peerF ls d p = peerF (ls.drop k) d p)) (fun i _=>ls.length - (intOf i).toNat)
 case atStart=>exact ⟨0,rfl,by omega,D3,B1,B2,B3,rfl⟩
 case round =>
  clear B1 B2 B3 D1 D2 D3;obtain ⟨k,rfl,hk,D1,B1,B2,B3,hl⟩:=hrel;obtain ⟨n1,e0,e1,_⟩:=id B1;by_cases hlt : k < ls.length
  ·obtain ⟨l,hlk⟩ : ∃ l,ls[k]? = some l:=⟨_,List.getElem?_eq_getElem hlt⟩;obtain ⟨b,o,rfl,hb,c0,c1,c2,c3⟩:=(hL.out.below D1).at hlk;have Hd : Hid (peerF (ls.drop k) d p = (endOf l d p).or (peerF (ls.drop (k + 1)) d p)):=peerF_drop hlk d p;have D2:=Below.alN D1 (.cells #[.int .i64 l.a,.int .i64 l.p,.int .i64 l.b,.int .i64 l.q] 96);have E1:=B1.alloc (.cells #[.int .i64 l.a,.int .i64 l.p,.int .i64 l.b,.int .i64 l.q] 96);have E2:=B2.alloc (.cells #[.int .i64 l.a,.int .i64 l.p,.int .i64 l.b,.int .i64 l.q] 96);have E3:=B3.alloc (.cells #[.int .i64 l.a,.int .i64 l.p,.int .i64 l.b,.int .i64 l.q] 96);have k1 : (0 : Int) <= (k : Int):=by omega
   have k2 : (k : Int) < (ls.length : Int):=by omega
   have lw:=D1.size;have FR : Hid (∀ w,Calls Tryz.prog 120 #[lkA l.a l.p l.b l.q] w fun e w'=>e = .returned (plA l.a l.p) /\ Below w.heap.size w w'):=fun w=>from_any _ _ _ _ w;have TO : Hid (∀ w,Calls Tryz.prog 121 #[lkA l.a l.p l.b l.q] w fun e w'=>e = .returned (plA l.b l.q) /\ Below w.heap.size w w'):=fun w=>to_any _ _ _ _ w;unfold endOf at Hd;clear hlk hL;generalize l.a = la at *;generalize l.p = lp at *;generalize l.b = lb at *;generalize l.q = lq at *;have L0:=lk4_new wr (.int .i64 la) (.int .i64 lp) (.int .i64 lb) (.int .i64 lq) 96;obtain ⟨n2,f0,f1,f2,f3⟩:=id E2;have P1:=fun w=>place_eq la lp d p w;have P2:=fun w=>place_eq lb lq d p w;generalize ((la == d) && (lp == p)) = x0 at *;generalize ((lb == d) && (lq == p)) = x1 at *;go_wp2_with fail;go_region_held3 (fun w'=>w'.cell? ⟨wr.heap.size,0,none⟩ = some (.int .i64 la) /\ w'.cell? ⟨wr.heap.size,1,none⟩ = some (.int .i64 lp) /\ w'.cell? ⟨wr.heap.size,2,none⟩ = some (.int .i64 lb) /\ w'.cell? ⟨wr.heap.size,3,none⟩ = some (.int .i64 lq) /\ w'.cell? ⟨w.heap.size + 1,0,none⟩ = some (.int .i64 d) /\ w'.cell? ⟨w.heap.size + 1,1,none⟩ = some (.int .i64 p)) (go_keep) ((go_at_call 120;refine (FR.out _).mono ?_;rintro e w2 ⟨rfl,hb2⟩;have D3:=chnN hb2 D2.drew;have G1:=E1.drew.below hb2 E1.1;have G2:=E2.drew.below hb2 E2.1;have G3:=E3.drew.below hb2 E3.1;have G4:=L0.drew.below hb2 L0.1;obtain ⟨_,g0,g1,_⟩:=id G2;obtain ⟨_,g2,g3,g4,g5⟩:=id G4))
   clear E1 E2 E3 L0 f0 f1 f2 f3 c0 c1 c2 c3 e0 e1;cases x0
   ·go_wp2_with fail;go_region_held3 (fun w'=>w'.cell? ⟨wr.heap.size,0,none⟩ = some (.int .i64 la) /\ w'.cell? ⟨wr.heap.size,1,none⟩ = some (.int .i64 lp) /\ w'.cell? ⟨wr.heap.size,2,none⟩ = some (.int .i64 lb) /\ w'.cell? ⟨wr.heap.size,3,none⟩ = some (.int .i64 lq) /\ w'.cell? ⟨w.heap.size + 1,0,none⟩ = some (.int .i64 d) /\ w'.cell? ⟨w.heap.size + 1,1,none⟩ = some (.int .i64 p)) (go_keep) ((go_at_call 121;refine (TO.out _).mono ?_;rintro e w3 ⟨rfl,hb3⟩;have D4:=chnN hb3 D3.drew;have J1:=G1.drew.below hb3 G1.1;have J2:=G2.drew.below hb3 G2.1;have J3:=G3.drew.below hb3 G3.1;have J4:=G4.drew.below hb3 G4.1;obtain ⟨_,j0,j1,_⟩:=id J2;obtain ⟨_,j2,j3,j4,j5⟩:=id J4))
    clear g0 g1 g2 g3 g4 g5 G1 G2 G3 G4;cases x1
    ·have Hn : Hid (peerF ls d p = peerF (ls.drop (k + 1)) d p):=by show _ = _;rw [hl.out,Hd.out];rfl
     go_wp2_with fail;go_roundw
     case rel=>exact ⟨k + 1,by go_num,by omega,D4,J1,J2,J3,Hn⟩
     case measure=>simp [intOf];omega
    ·have Hn : Hid (peerF ls d p = some (la,lp)):=by show _ = _;rw [hl.out,Hd.out];rfl
     clear hl Hd;go_wp2_with fail;refine (FR.out _).mono ?_;rintro e w4 ⟨rfl,hb4⟩;have D5:=chnN hb4 D4;have K3:=J3.below hb4 J3.1;obtain ⟨n3,g0,g1,g2,g3⟩:=id K3;clear J1 J2 J3 J4 hb4;go_wp2_with fail;refine bodyPost_ret (v:=.tuple #[.agg #[.int .i64 la,.int .i64 lp],.bool true]) (by simp [results,Tryz.results67,go_sem,g0,g1]) rfl ⟨by rw [Hn.out];rfl,?_⟩;exact (D5.setCell (by simp;omega) _).setCell (by simp;omega) _
   ·have Hn : Hid (peerF ls d p = some (lb,lq)):=by show _ = _;rw [hl.out,Hd.out];rfl
    clear hl Hd;go_wp2_with fail;refine (TO.out _).mono ?_;rintro e w4 ⟨rfl,hb4⟩;have D5:=chnN hb4 D3;have K3:=G3.below hb4 G3.1;clear g0 g1 g2 g3 g4 g5 G1 G2 G3 G4 hb4;obtain ⟨n3,g0,g1,g2,g3⟩:=id K3;go_wp2_with fail;refine bodyPost_ret (v:=.tuple #[.agg #[.int .i64 lb,.int .i64 lq],.bool true]) (by simp [results,Tryz.results67,go_sem,g0,g1]) rfl ⟨by rw [Hn.out];rfl,?_⟩;exact (D5.setCell (by simp;omega) _).setCell (by simp;omega) _
  ·have Hn : Hid (peerF ls d p = none):=by show _ = _;rw [hl.out,List.drop_eq_nil_of_le (by omega)];rfl
   obtain ⟨n3,g0,g1,g2,g3⟩:=id B3;go_wp2_with fail;refine bodyPost_ret (v:=.tuple #[.agg #[.int .i64 0,.int .i64 0],.bool false]) (by simp [results,Tryz.results67,go_sem,g0,g1]) rfl ⟨by rw [Hn.out];rfl,?_⟩;exact (D1.setCell (by simp;omega) _).setCell (by simp;omega) _
theorem all_dropN (s : ByteArray) (k : Nat) (h : k < s.size) : (s.data.toList.drop k).all nameB = (nameB s[k] && (s.data.toList.drop (k + 1)).all nameB):=by
 rw [List.drop_eq_getElem_cons (by rw [<- Lib.size_eq];exact h),List.all_cons];rfl
theorem isName_loop (s : ByteArray) (w : World) (h1 : 1 <= s.size) (h8 : s.size <= 8) (res : Bool) (hres : Hid (s.data.toList.all nameB = res)) :
  Calls Tryz.prog 111 #[.string s] w fun e w'=>e = .returned (.bool res) /\ w' = w:=by
 have t1 : decide ((s.size : Int) < 1) = false:=by simp;omega
 have t8 : decide ((8 : Int) < (s.size : Int)) = false:=by simp;omega
 go_enter Tryz.func111,Tryz.ntmps111;go_wp2_with fail
 go_loop [16] (fun i=>∃ k : Nat,k <= s.size /\ i = .int .i64 k /\ Hid ((s.data.toList.drop k).all nameB = res)) (fun i=>s.size - (intOf i).toNat)
 case atStart=>exact ⟨0,by omega,rfl,hres⟩
 case round =>
  obtain ⟨k,hk,rfl,HD⟩:=hrel;by_cases hlt : k < s.size
  ·have HS : Hid ((s.data.toList.drop k).all nameB = (nameB s[k] && (s.data.toList.drop (k + 1)).all nameB)):=all_dropN s k hlt;have HN : Hid (nameB s[k] = ((decide (97 <= (s[k].toNat : Int)) && decide ((s[k].toNat : Int) <= 122)) || (decide (48 <= (s[k].toNat : Int)) && decide ((s[k].toNat : Int) <= 57)))):=rfl;cases a1 : decide (97 <= (s[k].toNat : Int)) <;> cases a2 : decide ((s[k].toNat : Int) <= 122) <;> cases a3 : decide (48 <= (s[k].toNat : Int)) <;> cases a4 : decide ((s[k].toNat : Int) <= 57)
   all_goals
    rw [a1,a2,a3,a4] at HN;first
     | (have HV : Hid ((s.data.toList.drop (k + 1)).all nameB = res) := by
         show _ = _;rw [<- HD.out,HS.out,HN.out];rfl
        clear HN HS HD;go_wp2_with fail
        go_round
        case rel=>exact ⟨k + 1,by omega,congrArg (Value.int .i64) (by omega),HV⟩
        case measure=>simp [intOf];omega)
     | (have HV : Hid (res = false) := by
         show _ = _;rw [<- HD.out,HS.out,HN.out];rfl
        clear HN HS HD;go_wp2_with fail;go_ret;exact ⟨by rw [HV.out];rfl,rfl⟩)
  ·have HV : Hid (res = true):=by
    show _ = _;rw [<- HD.out,List.drop_eq_nil_of_le (by rw [<- Lib.size_eq];omega)];rfl
   go_wp2_with fail;go_ret;exact ⟨by rw [HV.out];rfl,rfl⟩
theorem isName_any (s : ByteArray) (w : World) : Calls Tryz.prog 111 #[.string s] w fun e w'=>e = .returned (.bool (nameOk s)) /\ w' = w:=by
 unfold nameOk;by_cases h1 : 1 <= s.size
 ·by_cases h8 : s.size <= 8
  ·simp only [h1,h8,decide_true,Bool.true_and];exact isName_loop s w h1 h8 _ rfl
  ·simp only [h1,h8,decide_true,decide_false,Bool.and_false,Bool.false_and];have t1 : decide ((s.size : Int) < 1) = false:=by simp;omega
   have t8 : decide ((8 : Int) < (s.size : Int)) = true:=by simp;omega
   go_enter Tryz.func111,Tryz.ntmps111;go_wp2_with fail;go_ret;exact ⟨rfl,rfl⟩
 ·simp only [h1,decide_false,Bool.false_and];have t1 : decide ((s.size : Int) < 1) = true:=by simp;omega
  go_enter Tryz.func111,Tryz.ntmps111;go_wp2_with fail;go_ret;exact ⟨rfl,rfl⟩
def findFrom (ds : List Dv) (s : List UInt8) (k : Nat) : Int :=
 if h : k < ds.length then (if ds[k].name.toList == s then (k : Int) else findFrom ds s (k + 1)) else -1
termination_by ds.length - k
theorem findFrom_at {ds : List Dv} {s : List UInt8} {k : Nat} {d : Dv} (h : ds[k]? = some d) : findFrom ds s k = if d.name.toList == s then (k : Int) else findFrom ds s (k + 1):=by
 obtain ⟨hk,e⟩:=List.getElem?_eq_some_iff.1 h;rw [findFrom,dif_pos hk,e]
theorem findFrom_end {ds : List Dv} {s : List UInt8} {k : Nat} (h : ds.length <= k) : findFrom ds s k = -1:=by rw [findFrom,dif_neg (by omega)]
theorem findFrom_any (ds : List Dv) (s : List UInt8) : ∀ (m k : Nat),ds.length - k <= m -> decide (0 <= findFrom ds s k) = (ds.drop k).any (fun x=>x.name.toList == s)
 | 0,k,h=>by rw [findFrom_end (by omega),List.drop_eq_nil_of_le (by omega)];rfl
 | m + 1,k,h=>by
   by_cases hk : k < ds.length
   ·rw [findFrom_at (List.getElem?_eq_getElem hk),List.drop_eq_getElem_cons hk,List.any_cons,<- findFrom_any ds s m (k + 1) (by omega)];cases e : (ds[k].name.toList == s)
    ·simp
    ·simp
   ·rw [findFrom_end (by omega),List.drop_eq_nil_of_le (by omega)];rfl
theorem findFrom_some (ds : List Dv) (s : List UInt8) : decide (0 <= findFrom ds s 0) = ds.any (fun x=>x.name.toList == s):=findFrom_any ds s ds.length 0 (by omega)
theorem Devs.at {base : Nat} {w : World} {A : Option Addr} {n cap : Nat} {ds : List Dv} (h : Devs base w (.slice A n cap) ds) {k : Nat} {d : Dv} (hk : ds[k]? = some d) :
  ∃ b o vb vr vt,A = some ⟨b,o,none⟩ /\ b < base /\ SlAt base w 1 IsI vb d.backs /\ SlAt base w 5 IsRule vr d.rules /\ SlAt base w 3 IsRoute vt d.routes /\
    w.cell? ⟨b,o + k * 7,none⟩ = some (.string d.name) /\ w.cell? ⟨b,o + k * 7 + 1,none⟩ = some (.int .i64 d.kind) /\ w.cell? ⟨b,o + k * 7 + 2,none⟩ = some (.int .i64 d.addr) /\ w.cell? ⟨b,o + k * 7 + 3,none⟩ = some (.int .u8 (d.pool : Int)) /\ w.cell? ⟨b,o + k * 7 + 4,none⟩ = some vb /\ w.cell? ⟨b,o + k * 7 + 5,none⟩ = some vr /\ w.cell? ⟨b,o + k * 7 + 6,none⟩ = some vt:=by
 obtain ⟨A',cap',e,_,_,_,h3⟩:=h;cases e;obtain ⟨b,o,ea,hl,hr⟩:=h3 (fun e=>by subst e;simp at hk);obtain ⟨cs,_,⟨vb,vr,vt,rfl,s1,s2,s3⟩,hc⟩:=hr k d hk;exact ⟨b,o,vb,vr,vt,ea,hl,s1,s2,s3,hc 0 _ rfl,hc 1 _ rfl,hc 2 _ rfl,hc 3 _ rfl,hc 4 _ rfl,hc 5 _ rfl,hc 6 _ rfl⟩
theorem Devs.len {base : Nat} {w : World} {A : Option Addr} {n cap : Nat} {ds : List Dv} (h : Devs base w (.slice A n cap) ds) : n = ds.length /\ n <= cap /\ cap <= maxLen:=by
 obtain ⟨A',cap',e,_,h1,h2,_⟩:=h;cases e;exact ⟨rfl,h1,h2⟩
theorem SlAt.take {α : Type} {base : Nat} {w : World} {n : Nat} {R : List Value -> α -> Prop} {A : Option Addr} {m cap : Nat} {xs : List α} (h : SlAt base w n R (.slice A m cap) xs) (k : Nat) (hk : k <= xs.length) : SlAt base w n R (.slice A k cap) (xs.take k):=by
 obtain ⟨A',cap',e,h0,h1,h2,h3⟩:=h;cases e;refine ⟨A,cap,by rw [List.length_take,Nat.min_eq_left hk],h0,by rw [List.length_take];omega,h2,fun hn=>?_⟩;obtain ⟨b,o,ea,hl,hr⟩:=h3 (fun e=>hn (by rw [e,List.take_nil]));refine ⟨b,o,ea,hl,fun j x hx=>hr j x ?_⟩;rw [List.getElem?_take] at hx
 split at hx
 ·exact hx
 ·cases hx
theorem find1_any (nm s : ByteArray) (k ad : Int) (pl : Nat) (vb vr vt : Value) (n0 : Nat) (w : World) (hn : n0 < w.heap.size) (hc : w.cell? ⟨n0,0,none⟩ = some (.string s)) :
  Calls Tryz.prog 163 #[devA nm k ad pl vb vr vt,.pointer (some ⟨n0,0,none⟩)] w fun e w'=>e = .returned (.bool (nm.toList == s.toList)) /\ Below w.heap.size w w':=by
 have D0:=Below.alN (Below.refl w.heap.size w) (.cells #[.string nm,.int .i64 k,.int .i64 ad,.int .u8 (pl : Int),vb,vr,vt] 56);have c1 : (w.alloc (.cells #[.string nm,.int .i64 k,.int .i64 ad,.int .u8 (pl : Int),vb,vr,vt] 56)).cell? ⟨n0,0,none⟩ = some (.string s):=(D0.cell (p:=⟨n0,0,none⟩) hn).trans hc;go_enter Tryz.func163,Tryz.ntmps163;go_wp2_with fail;go_ret;exact ⟨rfl,D0⟩
theorem findIdx_any (A : Option Addr) (n cap : Nat) (ds : List Dv) (s : ByteArray) (n0 : Nat) (w : World) (hD : Hid (Devs w.heap.size w (.slice A n cap) ds)) (hn0 : n0 < w.heap.size) (hc0 : Hid (w.cell? ⟨n0,0,none⟩ = some (.string s))) :
  Calls Tryz.prog 107 #[.slice A n cap,.func (.func 163) #[] #[.pointer (some ⟨n0,0,none⟩)]] w fun e w'=>e = .returned (.int .i64 (findFrom ds s.toList 0)) /\ Below w.heap.size w w':=by
 obtain ⟨rfl,hc,hm⟩:=hD.out.len;unfold maxLen at hm;generalize hres : findFrom ds s.toList 0 = res;have HR : Hid (findFrom ds s.toList 0 = res):=hres;clear hres;go_enter Tryz.func107,Tryz.ntmps107;go_wp2_with fail;go_loopw [8] (fun i wr=>∃ k : Nat,i = .int .i64 (k : Int) /\ k <= ds.length /\ Below w.heap.size w wr /\ Hid (findFrom ds s.toList k = res)) (fun i _=>ds.length - (intOf i).toNat)
 case atStart=>exact ⟨0,rfl,by omega,Below.refl _ _,HR⟩
 case round =>
  obtain ⟨k,rfl,hk,D1,hno⟩:=hrel;by_cases hlt : k < ds.length
  ·obtain ⟨d,hxk⟩ : ∃ d,ds[k]? = some d:=⟨_,List.getElem?_eq_getElem hlt⟩;obtain ⟨b,o,vb,vr,vt,rfl,hb,_,_,_,c0,c1,c2,c3,c4,c5,c6⟩:=(hD.out.below D1).at hxk;have PR : Hid (Calls Tryz.prog 163 #[devA d.name d.kind d.addr d.pool vb vr vt,.pointer (some ⟨n0,0,none⟩)] wr fun e w'=>e = .returned (.bool (d.name.toList == s.toList)) /\ Below wr.heap.size wr w'):=find1_any d.name s d.kind d.addr d.pool vb vr vt n0 wr (Nat.lt_of_lt_of_le hn0 D1.size) ((D1.cell (p:=⟨n0,0,none⟩) hn0).trans hc0.out);have HF : Hid (findFrom ds s.toList k = if d.name.toList == s.toList then (k : Int) else findFrom ds s.toList (k + 1)):=findFrom_at hxk;have k1 : (0 : Int) <= (k : Int):=by omega
   have k2 : (k : Int) < (ds.length : Int):=by omega
   clear hxk hD HR hc0;generalize (d.name.toList == s.toList) = x at *;generalize d.name = nm at *;generalize d.kind = kd at *;generalize d.addr = ad at *;generalize d.pool = pl at *;cases x
   ·have HV : Hid (findFrom ds s.toList (k + 1) = res):=by
     show _ = _;rw [<- hno.out,HF.out];simp
    clear HF hno;go_wp2_with fail;refine PR.out.mono ?_;rintro e w2 ⟨rfl,hb2⟩;have D2:=chnN hb2 D1;clear hb2 D1 c0 c1 c2 c3 c4 c5 c6 PR;go_wp2_with fail;go_roundw
    case rel=>exact ⟨k + 1,by go_num,by omega,D2,HV⟩
    case measure=>simp [intOf];omega
   ·have HV : Hid (res = (k : Int)):=by
     show _ = _;rw [<- hno.out,HF.out];simp
    clear HF hno;go_wp2_with fail;refine PR.out.mono ?_;rintro e w2 ⟨rfl,hb2⟩;have D2:=chnN hb2 D1;clear hb2 D1 c0 c1 c2 c3 c4 c5 c6 PR;go_wp2_with fail;go_ret;exact ⟨by rw [HV.out];rfl,D2⟩
  ·have HV : Hid (res = -1):=by
    show _ = _;rw [<- hno.out,findFrom_end (by omega)]
   go_wp2_with fail;go_ret;exact ⟨by rw [HV.out];rfl,D1⟩
theorem find_any (A : Option Addr) (n cap : Nat) (ds : List Dv) (s : ByteArray) (w : World) (hD : Devs w.heap.size w (.slice A n cap) ds) :
  Calls Tryz.prog 112 #[.slice A n cap,.string s] w fun e w'=>e = .returned (.tuple #[.int .i64 (if 0 <= findFrom ds s.toList 0 then findFrom ds s.toList 0 else 0),.bool (decide (0 <= findFrom ds s.toList 0))]) /\ Below w.heap.size w w':=by
 have D0:=Below.alN (Below.refl w.heap.size w) (.cells #[.string s] 9);have FI : Hid (Calls Tryz.prog 107 #[.slice A n cap,.func (.func 163) #[] #[.pointer (some ⟨w.heap.size,0,none⟩)]] (w.alloc (.cells #[.string s] 9)) fun e w'=>e = .returned (.int .i64 (findFrom ds s.toList 0)) /\ Below (w.alloc (.cells #[.string s] 9)).heap.size (w.alloc (.cells #[.string s] 9)) w'):=findIdx_any A n cap ds s w.heap.size _ ((hD.below D0).mono D0.size) (by simp) (by show _ = _;simp [go_sem]);clear hD;generalize findFrom ds s.toList 0 = j at *;cases h : decide (0 <= j)
 ·have h1 : ¬ 0 <= j:=by simpa using h
  have h2 : j < 0:=by omega
  rw [if_neg h1];go_enter Tryz.func112,Tryz.ntmps112;go_wp2_with fail;refine FI.out.mono ?_;rintro e w1 ⟨rfl,hb1⟩;have D1:=chnN hb1 D0;go_wp2_with fail;go_ret2;exact ⟨by simp,D1⟩
 ·have h1 : 0 <= j:=by simpa using h
  rw [if_pos h1];go_enter Tryz.func112,Tryz.ntmps112;go_wp2_with fail;refine FI.out.mono ?_;rintro e w1 ⟨rfl,hb1⟩;have D1:=chnN hb1 D0;go_wp2_with fail;go_ret2;exact ⟨by simp,D1⟩
end Go.Proofs.YtppbfikimalojaaGreat
namespace Go.Proofs.YtppbfikimalojaaGreat
open Go.RowKit Go.Maps
section
variable {bR R MR most : Nat} {nsR : List Nd} {w : World}
def GOut (gW : Nat) (E : Prop) (w : World) (bR R MR most : Nat) (nsR : List Nd) (ds : List Dv) (ls : List Lk) (skip : Nat -> Prop) (F : Nat -> Nat -> Env -> Bool) (e : Ending) (w' : World) : Prop :=
 ∃ (cx : Array Value) (er : Int) (ns : List Nd),e = .returned (.tuple #[.agg cx,.int .i64 er]) /\ cx.size = 40 /\ Ar bR R MR 14 most w' ns /\ Kp (ca bR R MR 14 most) w w' /\ Ext nsR ns /\ (∀ i c t,Bz w i c t -> okT t -> Bz w' i c t) /\ ns.length <= nsR.length + gW * (4 * ds.length) /\
   Hid ((er = 0 /\ ∃ sx,SetsV cx sx /\ GInv ds ls skip F ds.length 0 ns sx) ∨ (er = 6 /\ cx = zeros40 /\ (E ∨ most <= nsR.length + gW * (4 * ds.length))))
theorem peer_pl {ds : List Dv} {ls : List Lk} (hz : netV ds ls = 0) {i q : Int} {t : Int × Int} (h : peerF ls i q = some t) : ∃ a b : Nat,t = ((a : Int),(b : Int)) /\ a < 10 /\ b < 4:=by
 obtain ⟨l,hl,he⟩:=peerF_of h;obtain ⟨h10,_,_,hp⟩:=netV_links hz;have hpl : isPl ds t.1 t.2 = true:=by
  rcases endOf_ends he with ⟨_,rfl⟩ | ⟨_,rfl⟩
  ·exact (hp l hl).2
  ·exact (hp l hl).1
 unfold isPl at hpl;simp only [Bool.and_eq_true,decide_eq_true_eq] at hpl;have hb : portsV (kindAt ds t.1) <= 4:=by
  unfold portsV
  split
  ·omega
  split
  ·omega
  split <;> omega
 exact ⟨t.1.toNat,t.2.toNat,Prod.ext (by simp;omega) (by simp;omega),by omega,by omega⟩
theorem all_set {c : Array Value} {p : Value -> Bool} (h : c.all p = true) (j : Nat) {u : Value} (hu : p u = true) : (c.setIfInBounds j u).all p = true:=by
 rw [Array.all_eq_true_iff_forall_mem] at h ⊢;intro x hx;rcases Array.mem_or_eq_of_mem_setIfInBounds hx with h' | h'
 ·exact h x h'
 ·rw [h'];exact hu
theorem zeros_one : zeros40.all (·.oneCell') = true:=by
 first
  | decide
  | kernel_rfl
  | simp [zeros40,Value.oneCell']
theorem setRow_heap' (W : World) (g : Nat) (c c' : Array Value) (t : TypeId) (h : Bz W g c t) (i : Nat) : (W.setRow g c').heap[i]? = if g = i then some (.cells c' t (0,0)) else W.heap[i]?:=by
 simp only [World.setRow];rw [Array.getElem?_modify];by_cases e : g = i
 ·subst e;unfold Bz at h;rw [if_pos rfl,if_pos rfl,h];rfl
 ·rw [if_neg e,if_neg e]
theorem setRow_self {W : World} {g : Nat} {c : Array Value} {t : TypeId} (h : Bz W g c t) : W.setRow g c = W:=by
 have e : (W.setRow g c).heap = W.heap:=by
  apply Array.ext_getElem?;intro i;rw [setRow_heap' W g c c t h i]
  split
  ·rename_i e
   subst e;exact h.symm
  ·rfl
 simp only [World.setRow] at e ⊢;rw [e]
theorem ports_eq (a0 a1 a2 a3 b0 b1 b2 b3 : Int) (w : World) : (binOp .eql 87 (.agg #[.int .i64 a0,.int .i64 a1,.int .i64 a2,.int .i64 a3]) (.agg #[.int .i64 b0,.int .i64 b1,.int .i64 b2,.int .i64 b3])).run Tryz.prog w = .ok (.bool ((a0 == b0) && ((a1 == b1) && ((a2 == b2) && (a3 == b3))))) w:=by
 obtain ⟨i,hi⟩ : ∃ i,Tryz.prog.info? 3 = some i:=by
  have h : (Tryz.prog.info? 3).isSome = true:=by kernel_rfl
  exact Option.isSome_iff_exists.1 h
 have nI : Tryz.prog.cellsOf 3 = 1:=by kernel_rfl
 rw [run_eql_struct,show (10000 : Nat) = 9998 + 1 + 1 from rfl,run_equalIn_array w (9998 + 1) _ _ Tryz.underlying87 hi,nI,show List.range 4 = [0,1,2,3] from rfl];have p0 : ∀ (x0 x1 x2 x3 : Int) (w : World),(part 3 #[.int .i64 x0,.int .i64 x1,.int .i64 x2,.int .i64 x3] (0 * 1)).run Tryz.prog w = .ok (.int .i64 x0) w:=fun _ _ _ _ _=>by kernel_rfl
 have p1 : ∀ (x0 x1 x2 x3 : Int) (w : World),(part 3 #[.int .i64 x0,.int .i64 x1,.int .i64 x2,.int .i64 x3] 1).run Tryz.prog w = .ok (.int .i64 x1) w:=fun _ _ _ _ _=>by kernel_rfl
 have p2 : ∀ (x0 x1 x2 x3 : Int) (w : World),(part 3 #[.int .i64 x0,.int .i64 x1,.int .i64 x2,.int .i64 x3] 2).run Tryz.prog w = .ok (.int .i64 x2) w:=fun _ _ _ _ _=>by kernel_rfl
 have p3 : ∀ (x0 x1 x2 x3 : Int) (w : World),(part 3 #[.int .i64 x0,.int .i64 x1,.int .i64 x2,.int .i64 x3] 3).run Tryz.prog w = .ok (.int .i64 x3) w:=fun _ _ _ _ _=>by kernel_rfl
 have q : ∀ (x y : Int) (w : World),(Op.equalIn 9999 3 (.int .i64 x) (.int .i64 y)).run Tryz.prog w = .ok (x == y) w:=fun x y w=>run_equalIn_int w 9998 3 .i64 .i64 x y Tryz.underlying3;simp only [Op.eqItems,Sem.run_bind,p0,Result.andThen_ok,q];cases h1 : (a0 == b0) <;> cases h2 : (a1 == b1) <;> cases h3 : (a2 == b2) <;> cases h4 : (a3 == b3) <;> simp [p1,p2,p3,q,h2,h3,h4]
end
section
variable {bR R MR most : Nat} {nsR : List Nd} {w : World}
theorem portsN_le (k : Int) : 0 <= portsV k /\ portsV k <= 4:=by
 unfold portsV
 split
 ·omega
 split
 ·omega
 split <;> omega
theorem grow_any (hR : Ar bR R MR 14 most w nsR) (A B : Option Addr) (cap cap' : Nat) (ds : List Dv) (ls : List Lk) (cw cn : Array Value) (sw sn : Nat -> Nat -> Nat) (hz : Hid (netV ds ls = 0)) (hdv : Hid (∀ d ∈ ds,devC d = 0)) (hD : Hid (Devs bR w (.slice A ds.length cap) ds)) (hL : Hid (Links bR w (.slice B ls.length cap') ls)) (hw : Hid (SetsV cw sw)) (hn : Hid (SetsV cn sn)) (hl : Hid (∀ a b,a < 10 -> b < 4 -> sn a b < nsR.length)) (h1 : Hid (cn.all (·.oneCell') = true)) (gW : Nat) (E : Prop) (HWB : Hid (∀ (i q a b : Nat) (d : Dv),ds[i]? = some d -> a < 10 -> b < 4 -> peerF ls i q = some ((a : Int),(b : Int)) -> WidB gW E d (q : Int) (ev nsR (sn a b)) (ev nsR (sn i 0)) (ev nsR (sn i 1)) (ev nsR (sn i 2)) (ev nsR (sn i 3)))) :
  Calls Tryz.prog 32 #[.pointer (some ⟨R,0,none⟩),.agg #[.slice A ds.length cap,.slice B ls.length cap'],.agg cw,.agg cn] w (GOut gW E w bR R MR most nsR ds ls (fun i=>sn i 0 = sw i 0 /\ sn i 1 = sw i 1 /\ sn i 2 = sw i 2 /\ sn i 3 = sw i 3) (fun a b=>ev nsR (sn a b))):=by
 have HI : Hid ((Tryz.prog.info? 89).map (·.size) = some cn.size):=iSets' hn.out.1;have Z2 : Hid (Bz ((((w.alloc (.cells #[.slice A ds.length cap,.slice B ls.length cap'] 25)).alloc (.cells cw 89)).alloc (.cells cn 89)).alloc (.cells zeros40 89)) (w.heap.size + 1 + 1) cn 89):=(Bz.new _ _ _ _ (by simp)).al _;have ZA : Hid (∀ W : World,(W.alloc (.cells zeros40 89)).heap[W.heap.size]? = some (.cells zeros40 89 (0,0))):=fun W=>Go.heap_alloc_new W _;have HS : Hid (zeros40.size = cn.size):=by show _ = _;rw [hn.out.1];rfl
 have D4 : Below w.heap.size w ((((w.alloc (.cells #[.slice A ds.length cap,.slice B ls.length cap'] 25)).alloc (.cells cw 89)).alloc (.cells cn 89)).alloc (.cells zeros40 89)):=(((Below.refl _ w).alloc (Nat.le_refl _) _).alloc (by simp) _ |>.alloc (by simp;omega) _).alloc (by simp;omega) _;have G4 : Gs bR R MR most nsR w (.slice A ds.length cap) (.slice B ls.length cap') cw cn cn nsR (((((w.alloc (.cells #[.slice A ds.length cap,.slice B ls.length cap'] 25)).alloc (.cells cw 89)).alloc (.cells cn 89)).alloc (.cells zeros40 89)).alloc (.cells cn 89)):=by
  have D5 : Below w.heap.size w (((((w.alloc (.cells #[.slice A ds.length cap,.slice B ls.length cap'] 25)).alloc (.cells cw 89)).alloc (.cells cn 89)).alloc (.cells zeros40 89)).alloc (.cells cn 89)):=D4.alloc D4.size _;exact ⟨hR.below D5,Ext.refl _,hR.kbelow D5,((((Bz.new w _ _ _ rfl).al _).al _).al _).al _,(((Bz.new (w.alloc _) _ _ _ (by simp)).al _).al _).al _,((Bz.new ((w.alloc _).alloc _) _ _ _ (by simp)).al _).al _,(Bz.new (((w.alloc _).alloc _).alloc _) _ _ _ (by simp)).al _,Bz.new ((((w.alloc _).alloc _).alloc _).alloc _) _ _ _ (by simp)⟩
 have I0 : Hid (GInv ds ls (fun i=>sn i 0 = sw i 0 /\ sn i 1 = sw i 1 /\ sn i 2 = sw i 2 /\ sn i 3 = sw i 3) (fun a b=>ev nsR (sn a b)) 0 0 nsR sn):=ginv_start hl.out (fun _ _ _ _=>rfl);obtain ⟨V,hV⟩ : ∃ V : Array Value -> List Nd -> World -> Prop,V = fun nx ns W=>Gs bR R MR most nsR w (.slice A ds.length cap) (.slice B ls.length cap') cw cn nx ns W:=⟨_,rfl⟩;have V4 : V cn nsR (((((w.alloc (.cells #[.slice A ds.length cap,.slice B ls.length cap'] 25)).alloc (.cells cw 89)).alloc (.cells cn 89)).alloc (.cells zeros40 89)).alloc (.cells cn 89)):=by rw [hV];exact G4
 have KP : ∀ {nx : Array Value} {ns : List Nd} {W W' : World},Below W.heap.size W W' -> V nx ns W -> V nx ns W':=fun {nx ns W W'} hb h=>by rw [hV] at h ⊢;exact h.below hb
 have CN : Hid (∀ {nx : Array Value} {ns : List Nd} {W : World},V nx ns W -> W.cell? ⟨w.heap.size,0,none⟩ = some (.slice A ds.length cap) /\ W.cell? ⟨w.heap.size,1,none⟩ = some (.slice B ls.length cap')):=fun {nx ns W} h=>by rw [hV] at h;exact ⟨h.bN.cell 0 _ rfl,h.bN.cell 1 _ rfl⟩
 have CS : Hid (∀ {nx : Array Value} {ns : List Nd} {W : World} (i j : Nat),i < 10 -> j < 4 -> V nx ns W -> W.cell? ⟨w.heap.size + 1 + 1,i * 4 + j,none⟩ = some (.int .i64 (sn i j : Int)) /\ W.cell? ⟨w.heap.size + 1,i * 4 + j,none⟩ = some (.int .i64 (sw i j : Int))):=fun {nx ns W} i j hi hj h=>by rw [hV] at h;exact ⟨h.bo.cell _ _ (hn.out.2 i j hi hj),h.bw.cell _ _ (hw.out.2 i j hi hj)⟩
 have DEV : Hid (∀ {nx : Array Value} {ns : List Nd} {W : World} (k : Nat) (d : Dv),ds[k]? = some d -> V nx ns W -> ∃ b o Ab nb cb Ae nr cr At nt ct,A = some ⟨b,o,none⟩ /\ Hid (SlAt bR w 1 IsI (.slice Ab nb cb) d.backs /\ SlAt bR w 5 IsRule (.slice Ae nr cr) d.rules /\ SlAt bR w 3 IsRoute (.slice At nt ct) d.routes) /\ W.cell? ⟨b,o + k * 7,none⟩ = some (.string d.name) /\ W.cell? ⟨b,o + k * 7 + 1,none⟩ = some (.int .i64 d.kind) /\ W.cell? ⟨b,o + k * 7 + 2,none⟩ = some (.int .i64 d.addr) /\ W.cell? ⟨b,o + k * 7 + 3,none⟩ = some (.int .u8 (d.pool : Int)) /\ W.cell? ⟨b,o + k * 7 + 4,none⟩ = some (.slice Ab nb cb) /\ W.cell? ⟨b,o + k * 7 + 5,none⟩ = some (.slice Ae nr cr) /\ W.cell? ⟨b,o + k * 7 + 6,none⟩ = some (.slice At nt ct)):=fun {nx ns W} k d hk h=>by
  rw [hV] at h;obtain ⟨b,o,vb,vr,vt,ea,hbb,s1,s2,s3,c0,c1,c2,c3,c4,c5,c6⟩:=hD.out.at hk;have hbl:=hR.kp_below h.kp;have up : ∀ {j : Nat} {v : Value},w.cell? ⟨b,j,none⟩ = some v -> W.cell? ⟨b,j,none⟩ = some v:=fun {j v} hc=>(hbl.cell (p:=⟨b,j,none⟩) hbb).trans hc;obtain ⟨Ab,cb,rfl,q1⟩:=id s1;obtain ⟨Ae,cr,rfl,q2⟩:=id s2;obtain ⟨At,ct,rfl,q3⟩:=id s3;exact ⟨b,o,Ab,_,cb,Ae,_,cr,At,_,ct,ea,⟨s1,s2,s3⟩,up c0,up c1,up c2,up c3,up c4,up c5,up c6⟩
 have hd10 : ds.length <= 10:=(netV_links hz.out).1;obtain ⟨_,hcap,hcm⟩:=hD.out.len;unfold maxLen at hcm;clear G4 D4;go_enter Tryz.func32,Tryz.ntmps32;go_upto_region 1 with fail;go_step;refine wpList_load_row rfl 89 _ rfl _ rfl _ cn (0,0) _ Z2.out uSets rfl HI.out ?_;simp only [Act.put,List.setIfInBounds_toArray,List.set_cons_zero,List.set_cons_succ];go_step;generalize hW3 : ((((w.alloc (.cells #[.slice A ds.length cap,.slice B ls.length cap'] 25)).alloc (.cells cw 89)).alloc (.cells cn 89)).alloc (.cells zeros40 89)) = W3 at *;go_step;go_step;go_step;refine wp_store_row 89 _ _ rfl _ cn rfl rfl _ _ (ZA.out W3) HI.out HS.out h1.out ?_;rw [World.setRow_alloc_new];have e3 : W3.heap.size = w.heap.size + 1 + 1 + 1 + 1:=by rw [<- hW3];simp
 rw [e3];clear hW3 e3 Z2;generalize W3.alloc (.cells cn 89) = W5 at *;obtain ⟨n0,n1⟩:=CN.out V4;simp only [Act.put];clear ZA HS;go_wp2_with fail;go_loopw [22] (fun i wr=>∃ (k : Nat) (nx : Array Value) (ns : List Nd),i = .int .i64 (k : Int) /\ k <= ds.length /\ V nx ns wr /\ Hid (∃ sx,SetsV nx sx /\ GInv ds ls (fun i=>sn i 0 = sw i 0 /\ sn i 1 = sw i 1 /\ sn i 2 = sw i 2 /\ sn i 3 = sw i 3) (fun a b=>ev nsR (sn a b)) k 0 ns sx /\ nx.all (·.oneCell') = true /\ ns.length <= nsR.length + gW * (k * 4))) (fun i _=>ds.length - (intOf i).toNat)
 case atStart=>exact ⟨0,cn,nsR,rfl,by omega,V4,⟨sn,hn.out,I0.out,h1.out,Nat.le_add_right _ _⟩⟩
 case round =>
  clear V4 n0 n1 I0;obtain ⟨k,nx,ns,rfl,hk,V1,J1⟩:=hrel;by_cases hlt : k < ds.length
  rotate_left
  ·have hke : k = ds.length:=by omega
   have GG:=V1;rw [hV] at GG;have BX : Hid (Bz wr (w.heap.size + 1 + 1 + 1 + 1) nx 89):=GG.bx;have BZ : Hid (Bz wr (w.heap.size + 1 + 1 + 1) zeros40 89):=GG.bz;have NX : Hid (nx.size = 40 /\ nx.all (·.oneCell') = true):=by
    obtain ⟨sx,q1,_,q3,_⟩:=J1.out;exact ⟨q1.1,q3⟩
   have hF : ∀ i,i ≠ w.heap.size + 1 + 1 + 1 -> (wr.setRow (w.heap.size + 1 + 1 + 1) nx).heap[i]? = wr.heap[i]?:=fun i hi=>by rw [setRow_heap' wr _ zeros40 nx _ GG.bz i,if_neg (fun e=>hi e.symm)]
   have L:=(GG.ar.outBox GG.bz (by decide) (by decide)).out;have n1 : R ≠ w.heap.size + 1 + 1 + 1:=fun e=>L.not (Or.inl e.symm);have n2 : MR ≠ w.heap.size + 1 + 1 + 1:=fun e=>L.not (Or.inr (Or.inr (Or.inl e.symm)));have n3 : rowOf wr R ≠ w.heap.size + 1 + 1 + 1:=fun e=>L.ne e.symm;have er : rowOf (wr.setRow (w.heap.size + 1 + 1 + 1) nx) R = rowOf wr R:=rowOf_same (hF R n1);have BR : Hid (Bz (wr.setRow (w.heap.size + 1 + 1 + 1) nx) (w.heap.size + 1 + 1 + 1) nx 89):=by
    show _ = _;rw [setRow_heap' wr _ zeros40 nx _ GG.bz,if_pos rfl]
   have FF : Hid (GOut gW E w bR R MR most nsR ds ls (fun i=>sn i 0 = sw i 0 /\ sn i 1 = sw i 1 /\ sn i 2 = sw i 2 /\ sn i 3 = sw i 3) (fun a b=>ev nsR (sn a b)) (.returned (.tuple #[.agg nx,.int .i64 0])) (wr.setRow (w.heap.size + 1 + 1 + 1) nx)):=by
    have kp2 : Kp (ca bR R MR 14 most) w (wr.setRow (w.heap.size + 1 + 1 + 1) nx):=by
     refine ⟨GG.kp.os,GG.kp.tape,GG.kp.output,by simp [World.setRow];exact GG.kp.size,fun i hi hm hr=>(hF i (by omega)).trans (GG.kp.blk i hi hm hr),?_,fun j hj=>?_⟩
     ·rw [show rowOf (wr.setRow (w.heap.size + 1 + 1 + 1) nx) (ca bR R MR 14 most).a = rowOf wr (ca bR R MR 14 most).a from er];exact GG.kp.row
     ·rw [<- GG.kp.post j hj];exact cellB (hF R n1)
    refine ⟨nx,0,ns,rfl,NX.out.1,GG.ar.same (hF _ n1) (hF _ n2) (hF _ n3),kp2,GG.ext,fun i c t hb ht=>((hR.outBox hb ht.1 ht.2.1).kp kp2).blk,?_,Or.inl ⟨rfl,?_⟩⟩
    ·obtain ⟨sx,_,_,_,q4⟩:=J1.out;exact mul_mono q4 (by omega)
    ·obtain ⟨sx,q1,q2,_⟩:=J1.out;rw [hke] at q2;exact ⟨sx,q1,q2⟩
   have HN : Hid ((Tryz.prog.info? 89).map (·.size) = some nx.size):=iSets' NX.out.1;have HZ : Hid (zeros40.size = nx.size):=by show _ = _;rw [NX.out.1];rfl
   clear GG hF L n1 n2 n3 er hV KP CN CS DEV J1 hR hD hL hw hn hl hdv;go_upto_region 17 with fail;go_step;refine wpList_load_row rfl 89 _ rfl _ rfl _ nx (0,0) _ BX.out uSets rfl HN.out ?_;simp only [Act.put,List.setIfInBounds_toArray,List.set_cons_zero,List.set_cons_succ];go_step;refine wp_store_row 89 _ _ rfl _ nx rfl rfl _ _ BZ.out HN.out HZ.out NX.out.2 ?_;simp only [Act.put];go_wp2_with fail;refine bodyPost_ret (v:=.tuple #[.agg nx,.int .i64 0]) (by simp [results,Tryz.results32,asAddr,run_loadVar_row (wr.setRow (w.heap.size + 1 + 1 + 1) nx) (w.heap.size + 1 + 1 + 1) 89 89 nx (0,0) _ BR.out uSets rfl HN.out]) rfl FF.out
  obtain ⟨d,hxk⟩ : ∃ d,ds[k]? = some d:=⟨_,List.getElem?_eq_getElem hlt⟩;obtain ⟨b,o,Ab,nb,cb,Ae,nr,cr,At,nt,ct,rfl,HSL,c0,c1,c2,c3,c4,c5,c6⟩:=DEV.out k d hxk V1;have HX : Hid (ds[k]? = some d):=hxk;have HDC : Hid (devC d = 0):=hdv.out d (List.mem_of_getElem? hxk);have k1 : (0 : Int) <= (k : Int):=by omega
  have k2 : (k : Int) < (ds.length : Int):=by omega
  have k3 : (k : Int) < 10:=by omega
  have V2:=KP ((Below.refl _ _).alloc (Nat.le_refl _) (.cells #[.string d.name,.int .i64 d.kind,.int .i64 d.addr,.int .u8 (d.pool : Int),.slice Ab nb cb,.slice Ae nr cr,.slice At nt ct] 56)) V1;have DB : Bz (wr.alloc (.cells #[.string d.name,.int .i64 d.kind,.int .i64 d.addr,.int .u8 (d.pool : Int),.slice Ab nb cb,.slice Ae nr cr,.slice At nt ct] 56)) wr.heap.size #[.string d.name,.int .i64 d.kind,.int .i64 d.addr,.int .u8 (d.pool : Int),.slice Ab nb cb,.slice Ae nr cr,.slice At nt ct] 56:=Bz.new wr _ _ _ rfl;obtain ⟨a0,b0⟩:=CS.out k 0 (by omega) (by omega) V2;obtain ⟨a1,b1⟩:=CS.out k 1 (by omega) (by omega) V2;obtain ⟨a2,b2⟩:=CS.out k 2 (by omega) (by omega) V2;obtain ⟨a3,b3⟩:=CS.out k 3 (by omega) (by omega) V2;have d1:=DB.cell 1 (.int .i64 d.kind) rfl;have PE:=fun W=>ports_eq (sn k 0) (sn k 1) (sn k 2) (sn k 3) (sw k 0) (sw k 1) (sw k 2) (sw k 3) W;simp only [Nat.add_zero] at a0 b0;have hsk : Hid ((((sn k 0 : Int) == (sw k 0 : Int)) && (((sn k 1 : Int) == (sw k 1 : Int)) && (((sn k 2 : Int) == (sw k 2 : Int)) && ((sn k 3 : Int) == (sw k 3 : Int))))) = decide (sn k 0 = sw k 0 /\ sn k 1 = sw k 1 /\ sn k 2 = sw k 2 /\ sn k 3 = sw k 3)):=by
   show _ = _;rw [Bool.eq_iff_iff];simp;omega
  rw [hsk.out] at PE;clear hxk hsk;generalize hq0 : sn k 0 = x0 at *;generalize hq1 : sn k 1 = x1 at *;generalize hq2 : sn k 2 = x2 at *;generalize hq3 : sn k 3 = x3 at *;generalize hr0 : sw k 0 = y0 at *;generalize hr1 : sw k 1 = y1 at *;generalize hr2 : sw k 2 = y2 at *;generalize hr3 : sw k 3 = y3 at *;have HQ : Hid (sn k 0 = x0 /\ sn k 1 = x1 /\ sn k 2 = x2 /\ sn k 3 = x3 /\ sw k 0 = y0 /\ sw k 1 = y1 /\ sw k 2 = y2 /\ sw k 3 = y3):=⟨hq0,hq1,hq2,hq3,hr0,hr1,hr2,hr3⟩;clear hq0 hq1 hq2 hq3 hr0 hr1 hr2 hr3;by_cases hsk : x0 = y0 /\ x1 = y1 /\ x2 = y2 /\ x3 = y3
  ·have hd : decide (x0 = y0 /\ x1 = y1 /\ x2 = y2 /\ x3 = y3) = true:=decide_eq_true hsk;rw [hd] at PE;have J2 : Hid (∃ sx,SetsV nx sx /\ GInv ds ls (fun i=>sn i 0 = sw i 0 /\ sn i 1 = sw i 1 /\ sn i 2 = sw i 2 /\ sn i 3 = sw i 3) (fun a b=>ev nsR (sn a b)) (k + 1) 0 ns sx /\ nx.all (·.oneCell') = true /\ ns.length <= nsR.length + gW * ((k + 1) * 4)):=by
    obtain ⟨sx,q1,q2,q3,q4⟩:=J1.out;obtain ⟨r0,r1,r2,r3,r4,r5,r6,r7⟩:=HQ.out;exact ⟨sx,q1,ginv_skip q2 ⟨by rw [r0,r4];exact hsk.1,by rw [r1,r5];exact hsk.2.1,by rw [r2,r6];exact hsk.2.2.1,by rw [r3,r7];exact hsk.2.2.2⟩,q3,mul_mono q4 (by omega)⟩
   have V3:=KP (Below.refl _ _).drew V2;clear hd hsk J1 CS DEV CN HDC;go_wp2_with fail;go_region;all_goals
    go_wp2_with fail;go_roundw
    case rel=>exact ⟨k + 1,nx,ns,by go_num,by omega,by first | exact V3 | exact V2,J2⟩
    case measure=>simp [intOf];omega
  ·have hd : decide (x0 = y0 /\ x1 = y1 /\ x2 = y2 /\ x3 = y3) = false:=decide_eq_false hsk;rw [hd] at PE;have NSK : Hid (¬ (sn k 0 = sw k 0 /\ sn k 1 = sw k 1 /\ sn k 2 = sw k 2 /\ sn k 3 = sw k 3)):=by
    obtain ⟨r0,r1,r2,r3,r4,r5,r6,r7⟩:=HQ.out;rw [r0,r1,r2,r3,r4,r5,r6,r7];exact hsk
   have PT : Hid (∀ W,Calls Tryz.prog 54 #[.int .i64 d.kind] W fun e w'=>e = .returned (.int .i64 (portsV d.kind)) /\ w' = W):=fun W=>nports_any d.kind W;have PR : Hid (∀ {nx : Array Value} {ns : List Nd} {W : World} (q : Nat),V nx ns W -> Calls Tryz.prog 67 #[.agg #[.slice (some ⟨b,o,none⟩) ds.length cap,.slice B ls.length cap'],.agg #[.int .i64 (k : Int),.int .i64 (q : Int)]] W fun e w'=>e = .returned (.tuple #[placeV (peerF ls k q),.bool (peerF ls k q).isSome]) /\ Below W.heap.size W w'):=fun {nx ns W} q h=>by
    rw [hV] at h;have hbl:=hR.kp_below h.kp;exact peer_any _ B _ cap' ls (k : Int) (q : Int) W ((hL.out.below hbl).mono (Nat.le_trans (Nat.le_trans hR.lowA (Nat.le_of_lt hR.lta)) h.kp.size))
   have AT : Hid (∀ (a b : Nat) W,a < 10 -> b < 4 -> Calls Tryz.prog 46 #[.agg cn,.agg #[.int .i64 (a : Int),.int .i64 (b : Int)]] W fun e w'=>e = .returned (.int .i64 (sn a b : Int)) /\ Below W.heap.size W w'):=fun a b W ha hb=>at_in cn sn a b W hn.out ha hb;have WD : Hid (∀ {nx : Array Value} {ns : List Nd} {W : World} (q a b' : Nat),a < 10 -> b' < 4 -> peerF ls k q = some ((a : Int),(b' : Int)) -> V nx ns W -> Calls Tryz.prog 70 #[.pointer (some ⟨R,0,none⟩),.int .i64 (sn a b' : Int),.agg #[.string d.name,.int .i64 d.kind,.int .i64 d.addr,.int .u8 (d.pool : Int),.slice Ab nb cb,.slice Ae nr cr,.slice At nt ct],.int .i64 (q : Int),.agg #[.int .i64 (x0 : Int),.int .i64 (x1 : Int),.int .i64 (x2 : Int),.int .i64 (x3 : Int)]] W fun e w'=>∃ (ns' : List Nd) (v er : Int),e = .returned (.tuple #[.int .i64 v,.int .i64 er]) /\ V nx ns' w' /\ Hid (Wf 14 ns /\ Wf 14 ns' /\ Ext ns ns' /\ ns'.length <= ns.length + gW) /\ (∀ {i : Nat} {c : Array Value} {t : TypeId},Bz W i c t -> okT t -> Bz w' i c t) /\ Hid ((er = 0 /\ ∃ f : Nat,v = (f : Int) /\ f < ns'.length /\ ∀ x,ev ns' f x = (ev nsR (sn a b') x || sendF d q (ev nsR (sn k 0)) (ev nsR (sn k 1)) (ev nsR (sn k 2)) (ev nsR (sn k 3)) x)) ∨ (er = 6 /\ v = 0 /\ (E ∨ most <= ns.length + gW)))):=fun {nx ns W} q a b' ha hb hpp h=>by
    rw [hV] at h ⊢;have hbl:=hR.kp_below h.kp;have hle : bR <= W.heap.size:=Nat.le_trans (Nat.le_trans hR.lowA (Nat.le_of_lt hR.lta)) h.kp.size;have hlen:=h.ext.len;have lt : ∀ i j,i < 10 -> j < 4 -> sn i j < ns.length:=fun i j hi hj=>Nat.lt_of_lt_of_le (hl.out i j hi hj) hlen;have ee : ∀ i j,i < 10 -> j < 4 -> ev ns (sn i j) = ev nsR (sn i j):=fun i j hi hj=>funext (h.ext.ev hR.wf h.ar.wf _ (hl.out i j hi hj));obtain ⟨r0,r1,r2,r3,_⟩:=HQ.out;have hk10 : k < 10:=by omega
    rw [<- r0,<- r1,<- r2,<- r3];obtain ⟨s1,s2,s3⟩:=HSL.out;refine (HWB.out k q a b' d HX.out ha hb hpp bR R MR most ns W h.ar Ab Ae At nb cb nr cr nt ct (SlAt.mono (SlAt.below s1 hbl (fun _ _ _ h=>h)) hle (fun _ _ _ h=>h)) (SlAt.mono (SlAt.below s2 hbl (fun _ _ _ h=>h)) hle (fun _ _ _ h=>h)) (SlAt.mono (SlAt.below s3 hbl (fun _ _ _ h=>h)) hle (fun _ _ _ h=>h)) _ _ _ _ _ (lt a b' ha hb) (lt k 0 hk10 (by omega)) (lt k 1 hk10 (by omega)) (lt k 2 hk10 (by omega)) (lt k 3 hk10 (by omega)) (ee a b' ha hb) (ee k 0 hk10 (by omega)) (ee k 1 hk10 (by omega)) (ee k 2 hk10 (by omega)) (ee k 3 hk10 (by omega))).mono fun e w' ⟨ns',v,er,e1,A1,K1,X1,L1,hv⟩=>⟨ns',v,er,e1,h.step A1 K1 X1,⟨h.ar.wf,A1.wf,X1,L1⟩,fun hb ht=>h.tf K1 hb ht,?_⟩;exact hv
   have SX : Hid (∀ {nx : Array Value} {ns : List Nd} {W : World} (j : Nat) (u : Value),V nx ns W -> V (nx.setIfInBounds j u) ns (W.setCell ⟨w.heap.size + 1 + 1 + 1 + 1,j,none⟩ u) /\ ∀ {i : Nat} {c : Array Value} {t : TypeId},Bz W i c t -> t = 56 -> Bz (W.setCell ⟨w.heap.size + 1 + 1 + 1 + 1,j,none⟩ u) i c t):=fun {nx ns W} j u h=>by
    rw [hV] at h ⊢;refine ⟨h.setx j u,fun {i c t} hb ht=>(Below.heap_setCell W ⟨w.heap.size + 1 + 1 + 1 + 1,j,none⟩ u i (fun e=>?_)).trans hb⟩;have hx:=h.bx;unfold Bz at hb hx;have e' : i = w.heap.size + 1 + 1 + 1 + 1:=e;rw [e',hx] at hb;simp only [Option.some.injEq,Obj.cells.injEq] at hb;rw [<- hb.2.1] at ht;exact absurd ht (by decide)
   have XC : Hid (∀ {nx : Array Value} {ns : List Nd} {W : World} (j : Nat),j < nx.size -> V nx ns W -> (∃ v,W.cell? ⟨w.heap.size + 1 + 1 + 1 + 1,j,none⟩ = some v) /\ W.frozen? ⟨w.heap.size + 1 + 1 + 1 + 1,j,none⟩ = false /\ Bz W (w.heap.size + 1 + 1) cn 89):=fun {nx ns W} j hj h=>by
    rw [hV] at h;exact ⟨⟨_,h.bx.cell j _ (Array.getElem?_eq_getElem hj)⟩,h.bx.free j,h.bo⟩
   have EOUT : Hid (∀ {nx : Array Value} {ns : List Nd} {W : World},V nx ns W -> ns.length <= nsR.length + gW * (4 * ds.length) -> (E ∨ most <= nsR.length + gW * (4 * ds.length)) -> Hid (Bz W (w.heap.size + 1 + 1 + 1) zeros40 89) /\ Hid (GOut gW E w bR R MR most nsR ds ls (fun i=>sn i 0 = sw i 0 /\ sn i 1 = sw i 1 /\ sn i 2 = sw i 2 /\ sn i 3 = sw i 3) (fun a b=>ev nsR (sn a b)) (.returned (.tuple #[.agg zeros40,.int .i64 6])) W)):=fun {nx ns W} h hl4 he4=>by
    rw [hV] at h;exact ⟨h.bz,zeros40,6,ns,rfl,rfl,h.ar,h.kp,h.ext,fun i c t hb ht=>((hR.outBox hb ht.1 ht.2.1).kp h.kp).blk,hl4,Or.inr ⟨rfl,rfl,he4⟩⟩
   have BO : Hid (∀ {nx : Array Value} {ns : List Nd} {W : World},V nx ns W -> Bz W (w.heap.size + 1 + 1) cn 89):=fun {nx ns W} h=>by rw [hV] at h;exact h.bo
   have HCN : Hid (cn[k * 4]? = some (.int .i64 (x0 : Int)) /\ cn[k * 4 + 1]? = some (.int .i64 (x1 : Int)) /\ cn[k * 4 + 2]? = some (.int .i64 (x2 : Int)) /\ cn[k * 4 + 3]? = some (.int .i64 (x3 : Int))):=by
    obtain ⟨r0,r1,r2,r3,_⟩:=HQ.out;have hk10 : k < 10:=by omega
    rw [<- r0,<- r1,<- r2,<- r3];exact ⟨hn.out.2 k 0 hk10 (by omega),hn.out.2 k 1 hk10 (by omega),hn.out.2 k 2 hk10 (by omega),hn.out.2 k 3 hk10 (by omega)⟩
   have HC40 : Hid (cn.size = 40):=hn.out.1;have V3:=KP (Below.refl _ _).drew V2;have J1' : Hid (∃ sx,SetsV nx sx /\ GInv ds ls (fun i=>sn i 0 = sw i 0 /\ sn i 1 = sw i 1 /\ sn i 2 = sw i 2 /\ sn i 3 = sw i 3) (fun a b=>ev nsR (sn a b)) k 0 ns sx /\ nx.all (·.oneCell') = true /\ ns.length <= nsR.length + gW * (k * 4)):=J1;clear hd hsk CS DEV hV hR hD hL hw hn hl hdv HI;generalize hDD : wr.heap.size = D at *;have DB3 : Bz (wr.alloc (.cells #[.string d.name,.int .i64 d.kind,.int .i64 d.addr,.int .u8 (d.pool : Int),.slice Ab nb cb,.slice Ae nr cr,.slice At nt ct] 56)).drew D #[.string d.name,.int .i64 d.kind,.int .i64 d.addr,.int .u8 (d.pool : Int),.slice Ab nb cb,.slice Ae nr cr,.slice At nt ct] 56:=DB;have pb:=portsN_le d.kind;have PNE : Hid (∀ q : Nat,portsV d.kind <= (q : Int) -> portsV d.kind <= (q : Int)):=fun _ h=>h;go_wp2_with fail;go_region;go_wp2_with fail;with_reducible refine (PT.out _).mono ?_
   rintro e w4 ⟨rfl,hw4⟩;obtain rfl:=hw4.symm;clear PT DB V2 a0 a1 a2 a3 b0 b1 b2 b3 PE d1 c0 c1 c2 c3 c4 c5 c6 V1 J1;obtain ⟨np,hnp⟩ : ∃ np,np = portsV d.kind:=⟨_,rfl⟩;have HNP : Hid (np = portsV d.kind):=hnp;rw [<- hnp] at pb ⊢;clear hnp PNE;go_wp2_with fail;go_loopw [37] (fun i wr=>∃ (q : Nat) (nx : Array Value) (ns : List Nd),i = .int .i64 (q : Int) /\ (q : Int) <= np /\ V nx ns wr /\ Bz wr D #[.string d.name,.int .i64 d.kind,.int .i64 d.addr,.int .u8 (d.pool : Int),.slice Ab nb cb,.slice Ae nr cr,.slice At nt ct] 56 /\ Hid (∃ sx,SetsV nx sx /\ GInv ds ls (fun i=>sn i 0 = sw i 0 /\ sn i 1 = sw i 1 /\ sn i 2 = sw i 2 /\ sn i 3 = sw i 3) (fun a b=>ev nsR (sn a b)) k q ns sx /\ nx.all (·.oneCell') = true /\ ns.length <= nsR.length + gW * (k * 4 + q))) (fun i _=>np.toNat - (intOf i).toNat)
   case atStart=>exact ⟨0,nx,ns,rfl,by omega,V3,DB3,J1'⟩
   case round =>
    clear V3 DB3 J1';obtain ⟨q,nx,ns,rfl,hq,V1,DB,J1⟩:=hrel;by_cases hlq : (q : Int) < np
    rotate_left
    ·have J2 : Hid (∃ sx,SetsV nx sx /\ GInv ds ls (fun i=>sn i 0 = sw i 0 /\ sn i 1 = sw i 1 /\ sn i 2 = sw i 2 /\ sn i 3 = sw i 3) (fun a b=>ev nsR (sn a b)) (k + 1) 0 ns sx /\ nx.all (·.oneCell') = true /\ ns.length <= nsR.length + gW * ((k + 1) * 4)):=by
      obtain ⟨sx,q1,q2,q3,q4⟩:=J1.out;exact ⟨sx,q1,ginv_done q2 HX.out (by rw [<- HNP.out];omega),q3,mul_mono q4 (by omega)⟩
     clear PR AT WD SX XC EOUT CN DB J1;go_wp2_with fail;go_roundw
     case rel=>exact ⟨k + 1,nx,ns,by go_num,by omega,V1,J2⟩
     case measure=>simp [intOf];omega
    obtain ⟨n0,n1⟩:=CN.out V1;have P1:=PR.out q V1;have P1' : Hid (Calls Tryz.prog 67 #[.agg #[.slice (some ⟨b,o,none⟩) ds.length cap,.slice B ls.length cap'],.agg #[.int .i64 (k : Int),.int .i64 (q : Int)]] wr fun e w'=>e = .returned (.tuple #[placeV (peerF ls k q),.bool (peerF ls k q).isSome]) /\ Below wr.heap.size wr w'):=P1;clear P1 PR;have q4 : (q : Int) < 4:=by omega
    cases hp : peerF ls k q with
    | none =>
      rw [hp] at P1';have J2 : Hid (∃ sx,SetsV nx sx /\ GInv ds ls (fun i=>sn i 0 = sw i 0 /\ sn i 1 = sw i 1 /\ sn i 2 = sw i 2 /\ sn i 3 = sw i 3) (fun a b=>ev nsR (sn a b)) k (q + 1) ns sx /\ nx.all (·.oneCell') = true /\ ns.length <= nsR.length + gW * (k * 4 + (q + 1))):=by
       obtain ⟨sx,q1,q2,q3,q4⟩:=J1.out;exact ⟨sx,q1,ginv_none q2 hp,q3,mul_mono q4 (by omega)⟩
      clear AT WD SX XC EOUT CN J1 hp;unfold placeV Option.isSome at P1';go_wp2_with fail;with_reducible refine P1'.out.mono ?_
      rintro e w5 ⟨rfl,hb5⟩;have V5:=KP ((Below.refl _ _).alloc (Nat.le_refl _) (.cells #[.int .i64 0,.int .i64 0] 27)) (KP hb5 V1);have DB5 : Bz (w5.alloc (.cells #[.int .i64 0,.int .i64 0] 27)) D #[.string d.name,.int .i64 d.kind,.int .i64 d.addr,.int .u8 (d.pool : Int),.slice Ab nb cb,.slice Ae nr cr,.slice At nt ct] 56:=Bz.al ((hb5.block _ DB.lt).trans DB) _;go_wp2_with fail;go_roundw
      case rel=>exact ⟨q + 1,nx,ns,by go_num,by omega,V5,DB5,J2⟩
      case measure=>simp [intOf];omega
    | some t =>
      obtain ⟨a,b',rfl,ha,hb'⟩:=peer_pl hz.out hp;rw [hp] at P1';have HP : Hid (peerF ls k q = some ((a : Int),(b' : Int))):=hp;have a10 : (a : Int) < 10:=by omega
      have b4 : (b' : Int) < 4:=by omega
      have HA : Hid (a < 10 /\ b' < 4):=⟨ha,hb'⟩;clear hp ha hb';unfold placeV Option.isSome at P1';dsimp only at P1';go_wp2_with fail;with_reducible refine P1'.out.mono ?_
      rintro e w5 ⟨rfl,hb5⟩;have V5:=KP ((Below.refl _ _).alloc (Nat.le_refl _) (.cells #[.int .i64 (a : Int),.int .i64 (b' : Int)] 27)) (KP hb5 V1);have DB5 : Bz (w5.alloc (.cells #[.int .i64 (a : Int),.int .i64 (b' : Int)] 27)) D #[.string d.name,.int .i64 d.kind,.int .i64 d.addr,.int .u8 (d.pool : Int),.slice Ab nb cb,.slice Ae nr cr,.slice At nt ct] 56:=Bz.al ((hb5.block _ DB.lt).trans DB) _;have PB5 : Bz (w5.alloc (.cells #[.int .i64 (a : Int),.int .i64 (b' : Int)] 27)) w5.heap.size #[.int .i64 (a : Int),.int .i64 (b' : Int)] 27:=Bz.new w5 _ _ _ rfl;obtain ⟨K,hK⟩ : ∃ K : World -> Prop,K = fun W=>V nx ns W /\ Bz W D #[.string d.name,.int .i64 d.kind,.int .i64 d.addr,.int .u8 (d.pool : Int),.slice Ab nb cb,.slice Ae nr cr,.slice At nt ct] 56 /\ Bz W w5.heap.size #[.int .i64 (a : Int),.int .i64 (b' : Int)] 27:=⟨_,rfl⟩;have K5 : K (w5.alloc (.cells #[.int .i64 (a : Int),.int .i64 (b' : Int)] 27)).drew:=by rw [hK];exact ⟨KP (Below.refl _ _).drew V5,DB5,PB5⟩
      have KB : ∀ {W W' : World},Below W.heap.size W W' -> K W -> K W':=fun {W W'} hb h=>by rw [hK] at h ⊢;exact ⟨KP hb h.1,(hb.block _ h.2.1.lt).trans h.2.1,(hb.block _ h.2.2.lt).trans h.2.2⟩
      have SC : Hid (∀ {nx : Array Value} {ns : List Nd} {W : World},V nx ns W -> Bz W D #[.string d.name,.int .i64 d.kind,.int .i64 d.addr,.int .u8 (d.pool : Int),.slice Ab nb cb,.slice Ae nr cr,.slice At nt ct] 56 -> Bz W w5.heap.size #[.int .i64 (a : Int),.int .i64 (b' : Int)] 27 -> Bz W (w.heap.size + 1 + 1) cn 89 /\ W.cell? ⟨w5.heap.size,0,none⟩ = some (.int .i64 (a : Int)) /\ W.cell? ⟨w5.heap.size,1,none⟩ = some (.int .i64 (b' : Int)) /\ W.cell? ⟨D,0,none⟩ = some (.string d.name) /\ W.cell? ⟨D,1,none⟩ = some (.int .i64 d.kind) /\ W.cell? ⟨D,2,none⟩ = some (.int .i64 d.addr) /\ W.cell? ⟨D,3,none⟩ = some (.int .u8 (d.pool : Int)) /\ W.cell? ⟨D,4,none⟩ = some (.slice Ab nb cb) /\ W.cell? ⟨D,5,none⟩ = some (.slice Ae nr cr) /\ W.cell? ⟨D,6,none⟩ = some (.slice At nt ct) /\ W.cell? ⟨w.heap.size + 1 + 1,k * 4,none⟩ = some (.int .i64 (x0 : Int)) /\ W.cell? ⟨w.heap.size + 1 + 1,k * 4 + 1,none⟩ = some (.int .i64 (x1 : Int)) /\ W.cell? ⟨w.heap.size + 1 + 1,k * 4 + 2,none⟩ = some (.int .i64 (x2 : Int)) /\ W.cell? ⟨w.heap.size + 1 + 1,k * 4 + 3,none⟩ = some (.int .i64 (x3 : Int))):=fun {nx ns W} h1 h2 h3=>by
       have hbo:=BO.out h1;obtain ⟨m0,m1,m2,m3⟩:=HCN.out;exact ⟨hbo,h3.cell 0 _ rfl,h3.cell 1 _ rfl,h2.cell 0 _ rfl,h2.cell 1 _ rfl,h2.cell 2 _ rfl,h2.cell 3 _ rfl,h2.cell 4 _ rfl,h2.cell 5 _ rfl,h2.cell 6 _ rfl,hbo.cell _ _ m0,hbo.cell _ _ m1,hbo.cell _ _ m2,hbo.cell _ _ m3⟩
      have KC : Hid (∀ W,K W -> Bz W (w.heap.size + 1 + 1) cn 89 /\ W.cell? ⟨w5.heap.size,0,none⟩ = some (.int .i64 (a : Int)) /\ W.cell? ⟨w5.heap.size,1,none⟩ = some (.int .i64 (b' : Int)) /\ W.cell? ⟨D,0,none⟩ = some (.string d.name) /\ W.cell? ⟨D,1,none⟩ = some (.int .i64 d.kind) /\ W.cell? ⟨D,2,none⟩ = some (.int .i64 d.addr) /\ W.cell? ⟨D,3,none⟩ = some (.int .u8 (d.pool : Int)) /\ W.cell? ⟨D,4,none⟩ = some (.slice Ab nb cb) /\ W.cell? ⟨D,5,none⟩ = some (.slice Ae nr cr) /\ W.cell? ⟨D,6,none⟩ = some (.slice At nt ct) /\ W.cell? ⟨w.heap.size + 1 + 1,k * 4,none⟩ = some (.int .i64 (x0 : Int)) /\ W.cell? ⟨w.heap.size + 1 + 1,k * 4 + 1,none⟩ = some (.int .i64 (x1 : Int)) /\ W.cell? ⟨w.heap.size + 1 + 1,k * 4 + 2,none⟩ = some (.int .i64 (x2 : Int)) /\ W.cell? ⟨w.heap.size + 1 + 1,k * 4 + 3,none⟩ = some (.int .i64 (x3 : Int))):=fun W h=>by rw [hK] at h;exact SC.out h.1 h.2.1 h.2.2
      have KW : Hid (∀ W,K W -> Calls Tryz.prog 70 #[.pointer (some ⟨R,0,none⟩),.int .i64 (sn a b' : Int),.agg #[.string d.name,.int .i64 d.kind,.int .i64 d.addr,.int .u8 (d.pool : Int),.slice Ab nb cb,.slice Ae nr cr,.slice At nt ct],.int .i64 (q : Int),.agg #[.int .i64 (x0 : Int),.int .i64 (x1 : Int),.int .i64 (x2 : Int),.int .i64 (x3 : Int)]] W fun e w'=>∃ (ns' : List Nd) (v er : Int),e = .returned (.tuple #[.int .i64 v,.int .i64 er]) /\ (V nx ns' w' /\ Bz w' D #[.string d.name,.int .i64 d.kind,.int .i64 d.addr,.int .u8 (d.pool : Int),.slice Ab nb cb,.slice Ae nr cr,.slice At nt ct] 56 /\ Bz w' w5.heap.size #[.int .i64 (a : Int),.int .i64 (b' : Int)] 27) /\ Hid (Wf 14 ns /\ Wf 14 ns' /\ Ext ns ns' /\ ns'.length <= ns.length + gW) /\ Hid ((er = 0 /\ ∃ f : Nat,v = (f : Int) /\ f < ns'.length /\ ∀ x,ev ns' f x = (ev nsR (sn a b') x || sendF d q (ev nsR (sn k 0)) (ev nsR (sn k 1)) (ev nsR (sn k 2)) (ev nsR (sn k 3)) x)) ∨ (er = 6 /\ v = 0 /\ (E ∨ most <= ns.length + gW)))):=fun W h=>by
       rw [hK] at h;exact (WD.out q a b' HA.out.1 HA.out.2 HP.out h.1).mono fun e w' ⟨ns',v,er,e1,e2,e3,e4,e5⟩=>⟨ns',v,er,e1,⟨e2,e4 h.2.1 (by decide),e4 h.2.2 (by decide)⟩,e3,e5⟩
      have AT' : Hid (∀ W,Calls Tryz.prog 46 #[.agg cn,.agg #[.int .i64 (a : Int),.int .i64 (b' : Int)]] W fun e w'=>e = .returned (.int .i64 (sn a b' : Int)) /\ Below W.heap.size W w'):=fun W=>AT.out a b' W HA.out.1 HA.out.2;clear hK AT WD P1' V5 DB5 PB5 hb5 V1 DB n0 n1 CN;generalize hset : sn a b' = sset at *;have HSET : Hid (sn a b' = sset):=hset;clear hset;go_wp2_with fail;refine wp_region_held_drew (S:=(fun W=>Bz W (w.heap.size + 1 + 1) cn 89 /\ W.cell? ⟨w5.heap.size,0,none⟩ = some (.int .i64 (a : Int)) /\ W.cell? ⟨w5.heap.size,1,none⟩ = some (.int .i64 (b' : Int)) /\ W.cell? ⟨D,0,none⟩ = some (.string d.name) /\ W.cell? ⟨D,1,none⟩ = some (.int .i64 d.kind) /\ W.cell? ⟨D,2,none⟩ = some (.int .i64 d.addr) /\ W.cell? ⟨D,3,none⟩ = some (.int .u8 (d.pool : Int)) /\ W.cell? ⟨D,4,none⟩ = some (.slice Ab nb cb) /\ W.cell? ⟨D,5,none⟩ = some (.slice Ae nr cr) /\ W.cell? ⟨D,6,none⟩ = some (.slice At nt ct) /\ W.cell? ⟨w.heap.size + 1 + 1,k * 4,none⟩ = some (.int .i64 (x0 : Int)) /\ W.cell? ⟨w.heap.size + 1 + 1,k * 4 + 1,none⟩ = some (.int .i64 (x1 : Int)) /\ W.cell? ⟨w.heap.size + 1 + 1,k * 4 + 2,none⟩ = some (.int .i64 (x2 : Int)) /\ W.cell? ⟨w.heap.size + 1 + 1,k * 4 + 3,none⟩ = some (.int .i64 (x3 : Int)))) (by kernel_rfl) (KC.out _ K5) (fun hHeld=>?_);refine tk 0 ?_;try simp only [ly]
      refine' wpAnyH_take (i:=1) (v:=.agg cn) rfl (by kernel_rfl) (by kernel_rfl) (by kernel_rfl) (fun _ _ _ h=>h) (yieldsIf_load_mid (by rfl) 89 _ rfl (w.heap.size + 1 + 1) 0 rfl cn.toList _ (fun W hS j v hj=>by rw [Nat.zero_add];exact hS.1.cell j v (by simpa using hj)) uSets rfl (by rw [Array.length_toList,HC40.out];exact iSets)) ‹_› ?gr2;try simp only [ly]
      refine tk 2 ?_;try simp only [ly]
      refine tk 4 ?_;try simp only [ly]
      refine tk 5 ?_;try simp only [ly]
      refine tk 6 ?_;try simp only [ly]
      refine tk 7 ?_;try simp only [ly]
      refine tk 8 ?_;try simp only [ly]
      refine rd 3 (fun K hK=>?_);go_simp
      ((with_reducible refine (AT'.out _).mono ?_);rintro e wz ⟨rfl,hbz⟩;have Kz:=KB hbz ‹_›;clear hbz)
      try go_wp2_with fail
      clear hHeld;refine hK.out _ _ (by first | exact S8 | exact KC.out _ ‹_›) (fun hHeld=>?_);clear hK K;try simp only [ly]
      refine rd 9 (fun K hK=>?_);go_simp
      ((with_reducible refine (KW.out _ ‹_›).mono ?_);rintro e w8 ⟨ns',v,er,rfl,⟨V8,DB8,PB8⟩,X8,hv8⟩;have S8:=SC.out V8 DB8 PB8)
      try go_wp2_with fail
      clear hHeld;refine hK.out _ _ (by first | exact S8 | exact KC.out _ ‹_›) (fun hHeld=>?_);clear hK K;try simp only [ly]
      refine tk 10 ?_;try simp only [ly]
      refine tk 11 ?_;try simp only [ly]
      refine tk 12 ?_;try simp only [ly]
      refine tk 13 ?_;try simp only [ly]
      refine tk 14 ?_;try simp only [ly]
      refine wpAnyH_done (by kernel_rfl) ?_ _;clear KC KW AT' K5 KB S8 SC BO;by_cases he : er = 0
      ·subst he;have HV : Hid (∃ f : Nat,v = (f : Int) /\ f < ns'.length /\ ∀ x,ev ns' f x = (ev nsR sset x || sendF d q (ev nsR (sn k 0)) (ev nsR (sn k 1)) (ev nsR (sn k 2)) (ev nsR (sn k 3)) x)):=by
        rcases hv8.out with ⟨_,h⟩ | ⟨h,_⟩
        ·exact h
        ·cases h
       obtain ⟨f,rfl,hf,hfx⟩:=HV.out;have HF : Hid (f < ns'.length /\ ∀ x,ev ns' f x = (ev nsR sset x || sendF d q (ev nsR (sn k 0)) (ev nsR (sn k 1)) (ev nsR (sn k 2)) (ev nsR (sn k 3)) x)):=⟨hf,hfx⟩;clear hf hfx HV hv8;have J2 : Hid (∃ sx,SetsV (nx.setIfInBounds (a * 4 + b') (.int .i64 (f : Int))) sx /\ GInv ds ls (fun i=>sn i 0 = sw i 0 /\ sn i 1 = sw i 1 /\ sn i 2 = sw i 2 /\ sn i 3 = sw i 3) (fun a b=>ev nsR (sn a b)) k (q + 1) ns' sx /\ (nx.setIfInBounds (a * 4 + b') (.int .i64 (f : Int))).all (·.oneCell') = true /\ ns'.length <= nsR.length + gW * (k * 4 + (q + 1))):=by
        obtain ⟨sx,q1,q2,q3,q4⟩:=J1.out;obtain ⟨y1,y2,y3,y4⟩:=X8.out;refine ⟨updS sx a b' f,q1.upd HA.out.1 HA.out.2,ginv_put q2 (netV_links hz.out).2.2.1 y1 y2 y3 HX.out (by rw [<- HNP.out];exact hlq) NSK.out HP.out HF.out.1 (fun x=>?_),all_set q3 _ rfl,mul_step q4 y4⟩;rw [HF.out.2 x,<- HSET.out]
       have hsz : a * 4 + b' < nx.size:=by
        obtain ⟨sx,q1,_⟩:=J1.out;have:=q1.1;have:=HA.out.1;have:=HA.out.2;omega
       have V8d:=KP (Below.refl _ _).drew V8;obtain ⟨⟨vv,cx⟩,fx,_⟩:=XC.out (a * 4 + b') hsz V8d;obtain ⟨V9,T9⟩:=SX.out (a * 4 + b') (.int .i64 (f : Int)) V8d;have DB9:=T9 (i:=D) (c:=#[.string d.name,.int .i64 d.kind,.int .i64 d.addr,.int .u8 (d.pool : Int),.slice Ab nb cb,.slice Ae nr cr,.slice At nt ct]) (t:=56) DB8 rfl;have g0 : w8.drew.cell? ⟨w5.heap.size,0,none⟩ = some (.int .i64 (a : Int)):=PB8.cell 0 _ rfl;have g1 : w8.drew.cell? ⟨w5.heap.size,1,none⟩ = some (.int .i64 (b' : Int)):=PB8.cell 1 _ rfl;have a0 : (0 : Int) <= (a : Int):=by omega
       have b0 : (0 : Int) <= (b' : Int):=by omega
       clear XC SX T9 V8 V8d DB8 PB8 X8 J1 EOUT;go_wp2_with fail;go_region;all_goals
        go_wp2_with fail;go_roundw
        case rel=>exact ⟨q + 1,_,ns',by go_num,by omega,V9,DB9,J2⟩
        case measure=>simp [intOf];omega
      ·have HE : Hid (er = 6):=by
        rcases hv8.out with ⟨h,_⟩ | ⟨h,_⟩
        ·exact absurd h he
        ·exact h
       obtain rfl:=HE.out;have LB : Hid (ns'.length <= nsR.length + gW * (4 * ds.length) /\ (E ∨ most <= nsR.length + gW * (4 * ds.length))):=by
        obtain ⟨_,_,_,_,q4⟩:=J1.out;obtain ⟨_,_,_,y4⟩:=X8.out;have q5:=mul_mono (mul_step q4 y4) (show k * 4 + q + 1 <= 4 * ds.length by omega);refine ⟨q5,?_⟩;rcases hv8.out with ⟨h,_⟩ | ⟨_,_,h | h⟩
        ·exact absurd h (by decide)
        ·exact Or.inl h
        ·exact Or.inr (mul_mono (mul_step q4 h) (show k * 4 + q + 1 <= 4 * ds.length by omega))
       obtain ⟨ZB,FF⟩:=EOUT.out V8 LB.out.1 LB.out.2;clear LB;clear XC SX HE he hv8;go_upto_region 13 with fail;go_step
       iterate 7 go_step
       refine wp_store_row 89 _ _ rfl _ zeros40 rfl rfl _ _ ZB.out iSets (by rfl) zeros_one ?_;rw [setRow_self ZB.out];simp only [Act.put];go_wp2_with fail;refine bodyPost_ret (v:=.tuple #[.agg zeros40,.int .i64 6]) (by simp [results,Tryz.results32,asAddr,run_loadVar_row w8 (w.heap.size + 1 + 1 + 1) 89 89 zeros40 (0,0) _ ZB.out uSets rfl iSets]) rfl FF.out
end
structure Hs (bR R MR most : Nat) (nsR : List Nd) (w : World) (u0 u1 : Value) (nx : Array Value) (ns : List Nd) (W : World) : Prop where
 ar : Ar bR R MR 14 most W ns
 ext : Ext nsR ns
 kp : Kp (ca bR R MR 14 most) w W
 bN : Bz W w.heap.size #[u0,u1] 25
 bz : Bz W (w.heap.size + 1) zeros40 89
 bx : Bz W (w.heap.size + 1 + 1) nx 89
section
variable {bR R MR most : Nat} {nsR ns ns' : List Nd} {w W W' : World} {u0 u1 : Value} {nx : Array Value}
theorem Hs.below (h : Hs bR R MR most nsR w u0 u1 nx ns W) (hb : Below W.heap.size W W') : Hs bR R MR most nsR w u0 u1 nx ns W' :=
 ⟨h.ar.below hb,h.ext,h.kp.trans (h.ar.kbelow hb),(hb.block _ h.bN.lt).trans h.bN,(hb.block _ h.bz.lt).trans h.bz,(hb.block _ h.bx.lt).trans h.bx⟩
theorem Hs.tf (h : Hs bR R MR most nsR w u0 u1 nx ns W) (k : Kp (ca bR R MR 14 most) W W') {i : Nat} {c : Array Value} {t : TypeId} (hb : Bz W i c t) (ht : okT t) : Bz W' i c t:=((h.ar.outBox hb ht.1 ht.2.1).kp k).blk
theorem Hs.step (h : Hs bR R MR most nsR w u0 u1 nx ns W) (A' : Ar bR R MR 14 most W' ns') (k : Kp (ca bR R MR 14 most) W W') (X : Ext ns ns') : Hs bR R MR most nsR w u0 u1 nx ns' W' :=
 ⟨A',h.ext.trans X,h.kp.trans k,h.tf k h.bN (by decide),h.tf k h.bz (by decide),h.tf k h.bx (by decide)⟩
theorem Hs.setx (h : Hs bR R MR most nsR w u0 u1 nx ns W) (j : Nat) (u : Value) : Hs bR R MR most nsR w u0 u1 (nx.setIfInBounds j u) ns (W.setCell ⟨w.heap.size + 1 + 1,j,none⟩ u):=by
 have hF : ∀ i,i ≠ w.heap.size + 1 + 1 -> (W.setCell ⟨w.heap.size + 1 + 1,j,none⟩ u).heap[i]? = W.heap[i]?:=fun i hi=>Below.heap_setCell W ⟨w.heap.size + 1 + 1,j,none⟩ u i hi;have L:=(h.ar.outBox h.bx (by decide) (by decide)).out;have n1 : R ≠ w.heap.size + 1 + 1:=fun e=>L.not (Or.inl e.symm);have n2 : MR ≠ w.heap.size + 1 + 1:=fun e=>L.not (Or.inr (Or.inr (Or.inl e.symm)));have n3 : rowOf W R ≠ w.heap.size + 1 + 1:=fun e=>L.ne e.symm;have er : rowOf (W.setCell ⟨w.heap.size + 1 + 1,j,none⟩ u) R = rowOf W R:=rowOf_same (hF R n1);refine ⟨h.ar.same (hF _ n1) (hF _ n2) (hF _ n3),h.ext,⟨h.kp.os,h.kp.tape,h.kp.output,by simp [World.setCell];exact h.kp.size,fun i hi hm hr=>(hF i (by omega)).trans (h.kp.blk i hi hm hr),?_,fun k hk=>?_⟩,(hF _ (by omega)).trans h.bN,(hF _ (by omega)).trans h.bz,h.bx.set (j:=j) u⟩
 ·rw [show rowOf (W.setCell ⟨w.heap.size + 1 + 1,j,none⟩ u) (ca bR R MR 14 most).a = rowOf W (ca bR R MR 14 most).a from er];exact h.kp.row
 ·rw [<- h.kp.post k hk];exact cellB (hF R n1)
end
def HostBy (ds : List Dv) (ls : List Lk) (i : Nat) (t : Int × Int) (x : Env) : Prop :=
 ∃ (i' : Nat) (d : Dv),i' < i /\ ds[i']? = some d /\ d.kind = 1 /\ peerF ls i' 0 = some t /\ phi (setL [d.addr] 0) 65535 255 255 x = true
structure HInv (ds : List Dv) (ls : List Lk) (i : Nat) (ns : List Nd) (sx : Nat -> Nat -> Nat) : Prop where
 lt : ∀ a b,a < 10 -> b < 4 -> sx a b < ns.length
 fn : ∀ a b,a < 10 -> b < 4 -> ∀ x,(ev ns (sx a b) x = true ↔ HostBy ds ls i ((a : Int),(b : Int)) x)
section
variable {ds : List Dv} {ls : List Lk} {i : Nat} {ns ns' : List Nd} {sx : Nat -> Nat -> Nat}
theorem hinv_start (hW : Wf 14 ns) : HInv ds ls 0 ns (fun _ _=>0):=⟨fun _ _ _ _=>Nat.lt_of_lt_of_le (by omega) hW.len,fun a b _ _ x=>by
 rw [ev0];exact ⟨fun h=>(by cases h),fun ⟨i',d,h,_⟩=>(by omega)⟩⟩
theorem hinv_skip (h : HInv ds ls i ns sx) {d : Dv} (hd : ds[i]? = some d) (hs : d.kind ≠ 1 ∨ peerF ls i 0 = none) : HInv ds ls (i + 1) ns sx:=⟨h.lt,fun a b ha hb x=>(h.fn a b ha hb x).trans ⟨fun ⟨i',d',h1,h2⟩=>⟨i',d',by omega,h2⟩,fun ⟨i',d',h1,h2,h3,h4,h5⟩=>by
 refine ⟨i',d',?_,h2,h3,h4,h5⟩;by_cases e : i' = i
 ·subst e;rw [hd] at h2;obtain rfl:=Option.some.inj h2;rcases hs with hs | hs
  ·exact absurd h3 hs
  ·rw [hs] at h4;cases h4
 ·omega⟩⟩
theorem hinv_put (h : HInv ds ls i ns sx) (hA : Apart ls) (hW : Wf 14 ns) (hW' : Wf 14 ns') (X : Ext ns ns') {d : Dv} (hd : ds[i]? = some d) (hk : d.kind = 1) {a b f : Nat} (hp : peerF ls i 0 = some ((a : Int),(b : Int))) (hf : f < ns'.length) (hv : ∀ x,ev ns' f x = phi (setL [d.addr] 0) 65535 255 255 x) : HInv ds ls (i + 1) ns' (updS sx a b f):=by
 have hlen:=X.len;refine ⟨fun x y hx hy=>?_,fun x y hx hy e=>?_⟩
 ·unfold updS
  split
  ·exact hf
  ·have:=h.lt x y hx hy;omega
 ·unfold updS
  split
  ·rename_i hxy
   obtain ⟨rfl,rfl⟩:=hxy;rw [hv e];refine ⟨fun hse=>⟨i,d,by omega,hd,hk,hp,hse⟩,?_⟩;rintro ⟨i',d',_,h3,_,h5,h6⟩;have e1:=peerF_back hA hp;have e2:=peerF_back hA h5;rw [e1] at e2;simp only [Option.some.injEq,Prod.mk.injEq] at e2;obtain ⟨e3,_⟩:=e2;obtain rfl : i = i':=by omega
   rw [hd] at h3;obtain rfl:=Option.some.inj h3;exact h6
  ·rename_i hxy
   rw [X.ev hW hW' _ (h.lt x y hx hy),h.fn x y hx hy e];refine ⟨?_,?_⟩
   ·rintro ⟨i',d',h1,h2⟩;exact ⟨i',d',by omega,h2⟩
   ·rintro ⟨i',d',h1,h2,h3,h4,h5⟩;refine ⟨i',d',?_,h2,h3,h4,h5⟩;by_cases e : i' = i
    ·subst e;rw [hp] at h4;simp only [Option.some.injEq,Prod.mk.injEq] at h4;exact absurd ⟨by omega,by omega⟩ hxy
    ·omega
end
def HOut (w : World) (bR R MR most : Nat) (nsR : List Nd) (ds : List Dv) (ls : List Lk) (e : Ending) (w' : World) : Prop :=
 ∃ (cx : Array Value) (er : Int) (ns : List Nd),e = .returned (.tuple #[.agg cx,.int .i64 er]) /\ (cx.size = 40 /\ cx.all (·.oneCell') = true) /\ Ar bR R MR 14 most w' ns /\ Kp (ca bR R MR 14 most) w w' /\ Ext nsR ns /\ (∀ i c t,Bz w i c t -> okT t -> Bz w' i c t) /\ ns.length <= nsR.length + 44 * ds.length /\
   Hid ((er = 0 /\ ∃ sx,SetsV cx sx /\ HInv ds ls ds.length ns sx) ∨ (er = 6 /\ cx = zeros40 /\ most <= nsR.length + 44 * ds.length))
theorem setsV_zero : SetsV zeros40 (fun _ _=>0):=by
 refine ⟨rfl,fun i j hi hj=>?_⟩;have h0 : ∀ n,n < 40 -> zeros40[n]? = some (.int .i64 0):=fun n hn=>by
  have e : zeros40 = Array.replicate 40 (.int .i64 0):=rfl;rw [e];simp [hn]
 exact h0 _ (by omega)
section
variable {bR R MR most : Nat} {nsR : List Nd} {w : World}
theorem start_any (hR : Ar bR R MR 14 most w nsR) (A B : Option Addr) (cap cap' : Nat) (ds : List Dv) (ls : List Lk) (hz : Hid (netV ds ls = 0)) (hdv : Hid (∀ d ∈ ds,devC d = 0)) (hD : Hid (Devs bR w (.slice A ds.length cap) ds)) (hL : Hid (Links bR w (.slice B ls.length cap') ls)) :
  Calls Tryz.prog 31 #[.pointer (some ⟨R,0,none⟩),.agg #[.slice A ds.length cap,.slice B ls.length cap']] w (HOut w bR R MR most nsR ds ls):=by
 have D4 : Below w.heap.size w (((w.alloc (.cells #[.slice A ds.length cap,.slice B ls.length cap'] 25)).alloc (.cells zeros40 89)).alloc (.cells zeros40 89)):=((Below.refl _ w).alloc (Nat.le_refl _) _).alloc (by simp) _ |>.alloc (by simp;omega) _
 have G4 : Hs bR R MR most nsR w (.slice A ds.length cap) (.slice B ls.length cap') zeros40 nsR (((w.alloc (.cells #[.slice A ds.length cap,.slice B ls.length cap'] 25)).alloc (.cells zeros40 89)).alloc (.cells zeros40 89)):=⟨hR.below D4,Ext.refl _,hR.kbelow D4,((Bz.new w _ _ _ rfl).al _).al _,(Bz.new (w.alloc _) _ _ _ (by simp)).al _,Bz.new ((w.alloc _).alloc _) _ _ _ (by simp)⟩;have I0 : Hid (HInv ds ls 0 nsR (fun _ _=>0)):=hinv_start hR.wf;obtain ⟨V,hV⟩ : ∃ V : Array Value -> List Nd -> World -> Prop,V = fun nx ns W=>Hs bR R MR most nsR w (.slice A ds.length cap) (.slice B ls.length cap') nx ns W:=⟨_,rfl⟩;have V4 : V zeros40 nsR (((w.alloc (.cells #[.slice A ds.length cap,.slice B ls.length cap'] 25)).alloc (.cells zeros40 89)).alloc (.cells zeros40 89)):=by rw [hV];exact G4
 have KP : ∀ {nx : Array Value} {ns : List Nd} {W W' : World},Below W.heap.size W W' -> V nx ns W -> V nx ns W':=fun {nx ns W W'} hb h=>by rw [hV] at h ⊢;exact h.below hb
 have CN : Hid (∀ {nx : Array Value} {ns : List Nd} {W : World},V nx ns W -> W.cell? ⟨w.heap.size,0,none⟩ = some (.slice A ds.length cap) /\ W.cell? ⟨w.heap.size,1,none⟩ = some (.slice B ls.length cap')):=fun {nx ns W} h=>by rw [hV] at h;exact ⟨h.bN.cell 0 _ rfl,h.bN.cell 1 _ rfl⟩
 have DEV : Hid (∀ {nx : Array Value} {ns : List Nd} {W : World} (k : Nat) (d : Dv),ds[k]? = some d -> V nx ns W -> ∃ b o Ab nb cb Ae nr cr At nt ct,A = some ⟨b,o,none⟩ /\ W.cell? ⟨b,o + k * 7,none⟩ = some (.string d.name) /\ W.cell? ⟨b,o + k * 7 + 1,none⟩ = some (.int .i64 d.kind) /\ W.cell? ⟨b,o + k * 7 + 2,none⟩ = some (.int .i64 d.addr) /\ W.cell? ⟨b,o + k * 7 + 3,none⟩ = some (.int .u8 (d.pool : Int)) /\ W.cell? ⟨b,o + k * 7 + 4,none⟩ = some (.slice Ab nb cb) /\ W.cell? ⟨b,o + k * 7 + 5,none⟩ = some (.slice Ae nr cr) /\ W.cell? ⟨b,o + k * 7 + 6,none⟩ = some (.slice At nt ct)):=fun {nx ns W} k d hk h=>by
  rw [hV] at h;obtain ⟨b,o,vb,vr,vt,ea,hbb,s1,s2,s3,c0,c1,c2,c3,c4,c5,c6⟩:=hD.out.at hk;have hbl:=hR.kp_below h.kp;have up : ∀ {j : Nat} {v : Value},w.cell? ⟨b,j,none⟩ = some v -> W.cell? ⟨b,j,none⟩ = some v:=fun {j v} hc=>(hbl.cell (p:=⟨b,j,none⟩) hbb).trans hc;obtain ⟨Ab,cb,rfl,q1⟩:=id s1;obtain ⟨Ae,cr,rfl,q2⟩:=id s2;obtain ⟨At,ct,rfl,q3⟩:=id s3;exact ⟨b,o,Ab,_,cb,Ae,_,cr,At,_,ct,ea,up c0,up c1,up c2,up c3,up c4,up c5,up c6⟩
 have hd10 : ds.length <= 10:=(netV_links hz.out).1;obtain ⟨_,hcap,hcm⟩:=hD.out.len;unfold maxLen at hcm;clear G4 D4;obtain ⟨n0,n1⟩:=CN.out V4;go_enter Tryz.func31,Tryz.ntmps31;go_wp2_with fail;go_loopw [16] (fun i wr=>∃ (k : Nat) (nx : Array Value) (ns : List Nd),i = .int .i64 (k : Int) /\ k <= ds.length /\ V nx ns wr /\ Hid (∃ sx,SetsV nx sx /\ HInv ds ls k ns sx /\ nx.all (·.oneCell') = true /\ ns.length <= nsR.length + 44 * k)) (fun i _=>ds.length - (intOf i).toNat)
 case atStart=>exact ⟨0,zeros40,nsR,rfl,by omega,V4,⟨_,setsV_zero,I0.out,zeros_one,by omega⟩⟩
 case round =>
  clear V4 n0 n1 I0;obtain ⟨k,nx,ns,rfl,hk,V1,J1⟩:=hrel;by_cases hlt : k < ds.length
  rotate_left
  ·have hke : k = ds.length:=by omega
   have GG:=V1;rw [hV] at GG;have BX : Hid (Bz wr (w.heap.size + 1 + 1) nx 89):=GG.bx;have BZ : Hid (Bz wr (w.heap.size + 1) zeros40 89):=GG.bz;have NX : Hid (nx.size = 40 /\ nx.all (·.oneCell') = true):=by
    obtain ⟨sx,q1,_,q3,_⟩:=J1.out;exact ⟨q1.1,q3⟩
   have hF : ∀ i,i ≠ w.heap.size + 1 -> (wr.setRow (w.heap.size + 1) nx).heap[i]? = wr.heap[i]?:=fun i hi=>by rw [setRow_heap' wr _ zeros40 nx _ GG.bz i,if_neg (fun e=>hi e.symm)]
   have L:=(GG.ar.outBox GG.bz (by decide) (by decide)).out;have n1 : R ≠ w.heap.size + 1:=fun e=>L.not (Or.inl e.symm);have n2 : MR ≠ w.heap.size + 1:=fun e=>L.not (Or.inr (Or.inr (Or.inl e.symm)));have n3 : rowOf wr R ≠ w.heap.size + 1:=fun e=>L.ne e.symm;have er : rowOf (wr.setRow (w.heap.size + 1) nx) R = rowOf wr R:=rowOf_same (hF R n1);have BR : Hid (Bz (wr.setRow (w.heap.size + 1) nx) (w.heap.size + 1) nx 89):=by
    show _ = _;rw [setRow_heap' wr _ zeros40 nx _ GG.bz,if_pos rfl]
   have FF : Hid (HOut w bR R MR most nsR ds ls (.returned (.tuple #[.agg nx,.int .i64 0])) (wr.setRow (w.heap.size + 1) nx)):=by
    have kp2 : Kp (ca bR R MR 14 most) w (wr.setRow (w.heap.size + 1) nx):=by
     refine ⟨GG.kp.os,GG.kp.tape,GG.kp.output,by simp [World.setRow];exact GG.kp.size,fun i hi hm hr=>(hF i (by omega)).trans (GG.kp.blk i hi hm hr),?_,fun j hj=>?_⟩
     ·rw [show rowOf (wr.setRow (w.heap.size + 1) nx) (ca bR R MR 14 most).a = rowOf wr (ca bR R MR 14 most).a from er];exact GG.kp.row
     ·rw [<- GG.kp.post j hj];exact cellB (hF R n1)
    refine ⟨nx,0,ns,rfl,NX.out,GG.ar.same (hF _ n1) (hF _ n2) (hF _ n3),kp2,GG.ext,fun i c t hb ht=>((hR.outBox hb ht.1 ht.2.1).kp kp2).blk,?_,Or.inl ⟨rfl,?_⟩⟩
    ·obtain ⟨sx,_,_,_,q4⟩:=J1.out;rw [hke] at q4;exact q4
    ·obtain ⟨sx,q1,q2,_⟩:=J1.out;rw [hke] at q2;exact ⟨sx,q1,q2⟩
   have HN : Hid ((Tryz.prog.info? 89).map (·.size) = some nx.size):=iSets' NX.out.1;have HZ : Hid (zeros40.size = nx.size):=by show _ = _;rw [NX.out.1];rfl
   clear GG hF L n1 n2 n3 er hV KP CN DEV J1 hR hD hL hdv;go_upto_region 12 with fail;go_step;refine wpList_load_row rfl 89 _ rfl _ rfl _ nx (0,0) _ BX.out uSets rfl HN.out ?_;simp only [Act.put,List.setIfInBounds_toArray,List.set_cons_zero,List.set_cons_succ];go_step;refine wp_store_row 89 _ _ rfl _ nx rfl rfl _ _ BZ.out HN.out HZ.out NX.out.2 ?_;simp only [Act.put];go_wp2_with fail;refine bodyPost_ret (v:=.tuple #[.agg nx,.int .i64 0]) (by simp [results,Tryz.results31,asAddr,run_loadVar_row (wr.setRow (w.heap.size + 1) nx) (w.heap.size + 1) 89 89 nx (0,0) _ BR.out uSets rfl HN.out]) rfl FF.out
  obtain ⟨d,hxk⟩ : ∃ d,ds[k]? = some d:=⟨_,List.getElem?_eq_getElem hlt⟩;obtain ⟨b,o,Ab,nb,cb,Ae,nr,cr,At,nt,ct,rfl,c0,c1,c2,c3,c4,c5,c6⟩:=DEV.out k d hxk V1;have HX : Hid (ds[k]? = some d):=hxk;have HDC : Hid (devC d = 0):=hdv.out d (List.mem_of_getElem? hxk);have k1 : (0 : Int) <= (k : Int):=by omega
  have k2 : (k : Int) < (ds.length : Int):=by omega
  have k3 : (k : Int) < 10:=by omega
  have V2:=KP ((Below.refl _ _).alloc (Nat.le_refl _) (.cells #[.string d.name,.int .i64 d.kind,.int .i64 d.addr,.int .u8 (d.pool : Int),.slice Ab nb cb,.slice Ae nr cr,.slice At nt ct] 56)) V1;have DB : Bz (wr.alloc (.cells #[.string d.name,.int .i64 d.kind,.int .i64 d.addr,.int .u8 (d.pool : Int),.slice Ab nb cb,.slice Ae nr cr,.slice At nt ct] 56)) wr.heap.size #[.string d.name,.int .i64 d.kind,.int .i64 d.addr,.int .u8 (d.pool : Int),.slice Ab nb cb,.slice Ae nr cr,.slice At nt ct] 56:=Bz.new wr _ _ _ rfl;obtain ⟨n0,n1⟩:=CN.out V2;have P1 : Hid (Calls Tryz.prog 67 #[.agg #[.slice (some ⟨b,o,none⟩) ds.length cap,.slice B ls.length cap'],.agg #[.int .i64 (k : Int),.int .i64 0]] (wr.alloc (.cells #[.string d.name,.int .i64 d.kind,.int .i64 d.addr,.int .u8 (d.pool : Int),.slice Ab nb cb,.slice Ae nr cr,.slice At nt ct] 56)) fun e w'=>e = .returned (.tuple #[placeV (peerF ls k 0),.bool (peerF ls k 0).isSome]) /\ Below (wr.alloc (.cells #[.string d.name,.int .i64 d.kind,.int .i64 d.addr,.int .u8 (d.pool : Int),.slice Ab nb cb,.slice Ae nr cr,.slice At nt ct] 56)).heap.size (wr.alloc (.cells #[.string d.name,.int .i64 d.kind,.int .i64 d.addr,.int .u8 (d.pool : Int),.slice Ab nb cb,.slice Ae nr cr,.slice At nt ct] 56)) w'):=by
   have h:=V2;rw [hV] at h;have hbl:=hR.kp_below h.kp;exact peer_any _ B _ cap' ls (k : Int) 0 _ ((hL.out.below hbl).mono (Nat.le_trans (Nat.le_trans hR.lowA (Nat.le_of_lt hR.lta)) h.kp.size))
  have DBh : Hid (Bz (wr.alloc (.cells #[.string d.name,.int .i64 d.kind,.int .i64 d.addr,.int .u8 (d.pool : Int),.slice Ab nb cb,.slice Ae nr cr,.slice At nt ct] 56)) wr.heap.size #[.string d.name,.int .i64 d.kind,.int .i64 d.addr,.int .u8 (d.pool : Int),.slice Ab nb cb,.slice Ae nr cr,.slice At nt ct] 56):=DB;clear hxk DB;cases hp : peerF ls k 0 with
  | none =>
    rw [hp] at P1;have J2 : Hid (∃ sx,SetsV nx sx /\ HInv ds ls (k + 1) ns sx /\ nx.all (·.oneCell') = true /\ ns.length <= nsR.length + 44 * (k + 1)):=by
     obtain ⟨sx,q1,q2,q3,q4⟩:=J1.out;exact ⟨sx,q1,hinv_skip q2 HX.out (Or.inr hp),q3,by omega⟩
    clear CN J1 hp DEV;unfold placeV Option.isSome at P1;go_wp2_with fail;with_reducible refine P1.out.mono ?_
    rintro e w5 ⟨rfl,hb5⟩;have V5:=KP ((Below.refl _ _).alloc (Nat.le_refl _) (.cells #[.int .i64 0,.int .i64 0] 27)) (KP hb5 V2);have DB5 : Bz (w5.alloc (.cells #[.int .i64 0,.int .i64 0] 27)) wr.heap.size #[.string d.name,.int .i64 d.kind,.int .i64 d.addr,.int .u8 (d.pool : Int),.slice Ab nb cb,.slice Ae nr cr,.slice At nt ct] 56:=Bz.al ((hb5.block _ DBh.out.lt).trans DBh.out) _;have d1:=DB5.cell 1 (.int .i64 d.kind) rfl;clear DB5 hb5 P1 V1 V2 c0 c1 c2 c3 c4 c5 c6 n0 n1;by_cases hkd : d.kind = 1
    ·go_wp2_with fail;go_roundw
     case rel=>exact ⟨k + 1,nx,ns,by go_num,by omega,V5,J2⟩
     case measure=>simp [intOf];omega
    ·go_wp2_with fail;go_roundw
     case rel=>exact ⟨k + 1,nx,ns,by go_num,by omega,V5,J2⟩
     case measure=>simp [intOf];omega
  | some t =>
    obtain ⟨a,b',rfl,ha,hb'⟩:=peer_pl hz.out hp;rw [hp] at P1;have HP : Hid (peerF ls k 0 = some ((a : Int),(b' : Int))):=hp;have a10 : (a : Int) < 10:=by omega
    have b4 : (b' : Int) < 4:=by omega
    have HA : Hid (a < 10 /\ b' < 4):=⟨ha,hb'⟩;clear hp ha hb' DEV CN;unfold placeV Option.isSome at P1;dsimp only at P1;by_cases hkd : d.kind = 1
    rotate_left
    ·have J2 : Hid (∃ sx,SetsV nx sx /\ HInv ds ls (k + 1) ns sx /\ nx.all (·.oneCell') = true /\ ns.length <= nsR.length + 44 * (k + 1)):=by
      obtain ⟨sx,q1,q2,q3,q4⟩:=J1.out;exact ⟨sx,q1,hinv_skip q2 HX.out (Or.inl hkd),q3,by omega⟩
     clear J1;go_wp2_with fail;with_reducible refine P1.out.mono ?_
     rintro e w5 ⟨rfl,hb5⟩;have V5:=KP ((Below.refl _ _).alloc (Nat.le_refl _) (.cells #[.int .i64 (a : Int),.int .i64 (b' : Int)] 27)) (KP hb5 V2);have DB5 : Bz (w5.alloc (.cells #[.int .i64 (a : Int),.int .i64 (b' : Int)] 27)) wr.heap.size #[.string d.name,.int .i64 d.kind,.int .i64 d.addr,.int .u8 (d.pool : Int),.slice Ab nb cb,.slice Ae nr cr,.slice At nt ct] 56:=Bz.al ((hb5.block _ DBh.out.lt).trans DBh.out) _;have d1:=DB5.cell 1 (.int .i64 d.kind) rfl;clear DB5 hb5 P1 V1 V2 c0 c1 c2 c3 c4 c5 c6 n0 n1;go_wp2_with fail;go_roundw
     case rel=>exact ⟨k + 1,nx,ns,by go_num,by omega,V5,J2⟩
     case measure=>simp [intOf];omega
    have HKD : Hid (d.kind = 1):=hkd;clear hkd;go_wp2_with fail;with_reducible refine P1.out.mono ?_
    rintro e w5 ⟨rfl,hb5⟩;have V5:=KP ((Below.refl _ _).alloc (Nat.le_refl _) (.cells #[.int .i64 (a : Int),.int .i64 (b' : Int)] 27)) (KP hb5 V2);obtain ⟨D,hDD⟩ : ∃ D,D = wr.heap.size:=⟨_,rfl⟩;have DB5 : Bz (w5.alloc (.cells #[.int .i64 (a : Int),.int .i64 (b' : Int)] 27)) wr.heap.size #[.string d.name,.int .i64 d.kind,.int .i64 d.addr,.int .u8 (d.pool : Int),.slice Ab nb cb,.slice Ae nr cr,.slice At nt ct] 56:=Bz.al ((hb5.block _ DBh.out.lt).trans DBh.out) _;have PB5 : Bz (w5.alloc (.cells #[.int .i64 (a : Int),.int .i64 (b' : Int)] 27)) w5.heap.size #[.int .i64 (a : Int),.int .i64 (b' : Int)] 27:=Bz.new w5 _ _ _ rfl;have dl : D < w5.heap.size + 1:=by
     have:=DB5.lt;simp at this;omega
    rw [<- hDD] at DB5 ⊢;clear hb5 P1 V1 V2 c0 c1 c2 c3 c4 c5 c6 n0 n1 DBh hDD;obtain ⟨⟨_,_⟩,⟨ad0,ad16⟩,_⟩:=dev_right HDC.out;have hzz:=set_one ad0 ad16;obtain ⟨zz,hzq⟩ : ∃ zz,zz = setL [d.addr] 0:=⟨_,rfl⟩;have HZ : Hid (zz = setL [d.addr] 0):=hzq;rw [<- hzq] at hzz;have SI : Hid (∀ (k : Nat) W,Bz W k #[.int .i64 d.addr] 3 -> Calls Tryz.prog 69 #[.slice (some ⟨k,0,none⟩) 1 1] W fun e w'=>e = .returned (.agg #[.int .u16 (zz : Int),.int .u16 65535,.int .u8 255,.int .u8 255]) /\ Below W.heap.size W w'):=fun k W hk=>by
     rw [hzq];exact srcIn_any _ [d.addr] W (sl_one hk) (fun y hy=>by simp at hy;omega)
    obtain ⟨K,hK⟩ : ∃ K : World -> Prop,K = fun W=>(V nx ns W /\ Bz W D #[.string d.name,.int .i64 d.kind,.int .i64 d.addr,.int .u8 (d.pool : Int),.slice Ab nb cb,.slice Ae nr cr,.slice At nt ct] 56 /\ Bz W w5.heap.size #[.int .i64 (a : Int),.int .i64 (b' : Int)] 27):=⟨_,rfl⟩;have SI3 : Hid (Calls Tryz.prog 69 #[.slice (some ⟨w5.heap.size + 1,0,none⟩) 1 1] ((w5.alloc (.cells #[.int .i64 (a : Int),.int .i64 (b' : Int)] 27)).alloc (.cells #[.int .i64 d.addr] 3)).drew fun e w'=>e = .returned (.agg #[.int .u16 (zz : Int),.int .u16 65535,.int .u8 255,.int .u8 255]) /\ K w' /\ w'.cell? ⟨D,2,none⟩ = some (.int .i64 d.addr)):=by
     have Z3 : Bz ((w5.alloc (.cells #[.int .i64 (a : Int),.int .i64 (b' : Int)] 27)).alloc (.cells #[.int .i64 d.addr] 3)).drew (w5.heap.size + 1) #[.int .i64 d.addr] 3:=Bz.new (w5.alloc _) _ _ _ (by simp);refine (SI.out _ _ Z3).mono fun e w' ⟨h1,h2⟩=>⟨h1,?_⟩;have h3 : Below (w5.alloc (.cells #[.int .i64 (a : Int),.int .i64 (b' : Int)] 27)).heap.size (w5.alloc (.cells #[.int .i64 (a : Int),.int .i64 (b' : Int)] 27)) ((w5.alloc (.cells #[.int .i64 (a : Int),.int .i64 (b' : Int)] 27)).alloc (.cells #[.int .i64 d.addr] 3)).drew:=((Below.refl _ _).alloc (Nat.le_refl _) _).drew;have h4:=h3.trans (h2.mono h3.size);have q2:=(h4.block _ DB5.lt).trans DB5;rw [hK];exact ⟨⟨KP h4 V5,q2,(h4.block _ PB5.lt).trans PB5⟩,Bz.cell q2 2 _ rfl⟩
    have MB : Hid (∀ W,K W -> Calls Tryz.prog 68 #[.pointer (some ⟨R,0,none⟩),.agg #[.int .u16 (zz : Int),.int .u16 65535,.int .u8 255,.int .u8 255]] W fun e w'=>∃ (ns' : List Nd) (v er : Int),e = .returned (.tuple #[.int .i64 v,.int .i64 er]) /\ (V nx ns' w' /\ Bz w' D #[.string d.name,.int .i64 d.kind,.int .i64 d.addr,.int .u8 (d.pool : Int),.slice Ab nb cb,.slice Ae nr cr,.slice At nt ct] 56 /\ Bz w' w5.heap.size #[.int .i64 (a : Int),.int .i64 (b' : Int)] 27) /\ Hid (Wf 14 ns /\ Wf 14 ns' /\ Ext ns ns' /\ ns'.length <= ns.length + 44) /\ w'.cell? ⟨D,2,none⟩ = some (.int .i64 d.addr) /\ Hid ((er = 0 /\ ∃ f : Nat,v = (f : Int) /\ f < ns'.length /\ ∀ x,ev ns' f x = phi zz 65535 255 255 x) ∨ (er = 6 /\ v = 0 /\ most <= ns.length + 44))):=fun W h=>by
     rw [hK] at h;obtain ⟨h1,h2,h3⟩:=h;rw [hV] at h1 ⊢;refine (build_match h1.ar (Nat.le_refl _) zz 65535 255 255 hzz (by omega) (by omega) (by omega)).mono fun e w' ⟨ns',A1,K1,X1,L1,hv⟩=>?_;have q2:=h1.tf K1 h2 (by decide);have q3:=h1.tf K1 h3 (by decide);have q4:=q2.cell 2 (.int .i64 d.addr) rfl;rcases hv with ⟨f,he,hf,_,hx⟩ | ⟨he,hm6⟩
     ·exact ⟨ns',f,0,he,⟨h1.step A1 K1 X1,q2,q3⟩,⟨h1.ar.wf,A1.wf,X1,L1⟩,q4,Or.inl ⟨rfl,f,rfl,hf,hx⟩⟩
     ·exact ⟨ns',0,6,he,⟨h1.step A1 K1 X1,q2,q3⟩,⟨h1.ar.wf,A1.wf,X1,L1⟩,q4,Or.inr ⟨rfl,rfl,by omega⟩⟩
    have SX : Hid (∀ {nx : Array Value} {ns : List Nd} {W : World} (j : Nat) (u : Value),V nx ns W -> V (nx.setIfInBounds j u) ns (W.setCell ⟨w.heap.size + 1 + 1,j,none⟩ u)):=fun {nx ns W} j u h=>by
     rw [hV] at h ⊢;exact h.setx j u
    have XC : Hid (∀ {nx : Array Value} {ns : List Nd} {W : World} (j : Nat),j < nx.size -> V nx ns W -> (∃ v,W.cell? ⟨w.heap.size + 1 + 1,j,none⟩ = some v) /\ W.frozen? ⟨w.heap.size + 1 + 1,j,none⟩ = false):=fun {nx ns W} j hj h=>by
     rw [hV] at h;exact ⟨⟨_,h.bx.cell j _ (Array.getElem?_eq_getElem hj)⟩,h.bx.free j⟩
    have EOUT : Hid (∀ {nx : Array Value} {ns : List Nd} {W : World},V nx ns W -> ns.length <= nsR.length + 44 * ds.length -> most <= nsR.length + 44 * ds.length -> Hid (Bz W (w.heap.size + 1) zeros40 89) /\ Hid (HOut w bR R MR most nsR ds ls (.returned (.tuple #[.agg zeros40,.int .i64 6])) W)):=fun {nx ns W} h hl4 he4=>by
     rw [hV] at h;exact ⟨h.bz,zeros40,6,ns,rfl,⟨rfl,zeros_one⟩,h.ar,h.kp,h.ext,fun i c t hb ht=>((hR.outBox hb ht.1 ht.2.1).kp h.kp).blk,hl4,Or.inr ⟨rfl,rfl,he4⟩⟩
    have d1:=DB5.cell 1 (.int .i64 d.kind) rfl;have d2:=DB5.cell 2 (.int .i64 d.addr) rfl;rw [HKD.out] at d1;clear SI hV hK V5 DB5 PB5 hzq hzz hR hD hL hdv HDC;go_wp2_with fail;go_region_held3 (fun W=>W.cell? ⟨D,2,none⟩ = some (.int .i64 d.addr)) (go_keep)
     ((first
       | (go_at_call 69;(with_reducible refine SI3.out.mono ?_);rintro e w6 ⟨rfl,K6,y2⟩;skip)
       | (go_at_call 68;(with_reducible refine (MB.out _ K6).mono ?_);rintro e w8 ⟨ns',v,er,rfl,⟨V8,DB8,PB8⟩,X8,z2,hv8⟩;skip)))
    all_goals
     clear SI3 MB K6 y2 z2 d1 d2 DB8;by_cases he : er = 0
     ·subst he;have HV : Hid (∃ f : Nat,v = (f : Int) /\ f < ns'.length /\ ∀ x,ev ns' f x = phi zz 65535 255 255 x):=by
       rcases hv8.out with ⟨_,h⟩ | ⟨h,_⟩
       ·exact h
       ·cases h
      obtain ⟨f,rfl,hf,hfx⟩:=HV.out;have J2 : Hid (∃ sx,SetsV (nx.setIfInBounds (a * 4 + b') (.int .i64 (f : Int))) sx /\ HInv ds ls (k + 1) ns' sx /\ (nx.setIfInBounds (a * 4 + b') (.int .i64 (f : Int))).all (·.oneCell') = true /\ ns'.length <= nsR.length + 44 * (k + 1)):=by
       obtain ⟨sx,q1,q2,q3,q4⟩:=J1.out;obtain ⟨y1,y2,y3,y4⟩:=X8.out;refine ⟨updS sx a b' f,q1.upd HA.out.1 HA.out.2,hinv_put q2 (netV_links hz.out).2.2.1 y1 y2 y3 HX.out HKD.out HP.out hf (fun x=>?_),all_set q3 _ rfl,by omega⟩;rw [hfx x,HZ.out]
      clear hf hfx HV hv8;have hsz : a * 4 + b' < nx.size:=by
       obtain ⟨sx,q1,_⟩:=J1.out;have:=q1.1;have:=HA.out.1;have:=HA.out.2;omega
      have V8d:=KP (Below.refl _ _).drew V8;obtain ⟨⟨vv,cx⟩,fx⟩:=XC.out (a * 4 + b') hsz V8d;have V9:=SX.out (a * 4 + b') (.int .i64 (f : Int)) V8d;have g0 : w8.drew.cell? ⟨w5.heap.size,0,none⟩ = some (.int .i64 (a : Int)):=PB8.cell 0 _ rfl;have g1 : w8.drew.cell? ⟨w5.heap.size,1,none⟩ = some (.int .i64 (b' : Int)):=PB8.cell 1 _ rfl;have a0 : (0 : Int) <= (a : Int):=by omega
      have b0 : (0 : Int) <= (b' : Int):=by omega
      clear XC SX V8 V8d PB8 X8 J1 EOUT;go_wp2_with fail;go_region;all_goals
       go_wp2_with fail;go_roundw
       case rel=>exact ⟨k + 1,_,ns',by go_num,by omega,V9,J2⟩
       case measure=>simp [intOf];omega
     ·have HE : Hid (er = 6):=by
       rcases hv8.out with ⟨h,_⟩ | ⟨h,_⟩
       ·exact absurd h he
       ·exact h
      obtain rfl:=HE.out;have LB : Hid (ns'.length <= nsR.length + 44 * ds.length /\ most <= nsR.length + 44 * ds.length):=by
       obtain ⟨_,_,_,_,q4⟩:=J1.out;obtain ⟨_,_,_,y4⟩:=X8.out;refine ⟨by omega,?_⟩;rcases hv8.out with ⟨h,_⟩ | ⟨_,_,h⟩
       ·exact absurd h (by decide)
       ·omega
      obtain ⟨ZB,FF⟩:=EOUT.out V8 LB.out.1 LB.out.2;clear LB;clear XC SX HE he hv8;go_upto_region 9 with fail;go_step
      iterate 7 go_step
      refine wp_store_row 89 _ _ rfl _ zeros40 rfl rfl _ _ ZB.out iSets (by rfl) zeros_one ?_;rw [setRow_self ZB.out];simp only [Act.put];go_wp2_with fail;refine bodyPost_ret (v:=.tuple #[.agg zeros40,.int .i64 6]) (by simp [results,Tryz.results31,asAddr,run_loadVar_row w8 (w.heap.size + 1) 89 89 zeros40 (0,0) _ ZB.out uSets rfl iSets]) rfl FF.out
end
end Go.Proofs.YtppbfikimalojaaGreat
