/-
  XAT.
-/
import Derived.Test.YtppbfikimalojaaGreatXLy
import Derived.Test.YtppbfikimalojaaGreatXAS
import Derived.Test.YtppbfikimalojaaGreatXAJ
import Derived.Test.YtppbfikimalojaaGreatXAO
import Derived.Test.YtppbfikimalojaaGreatXAM
import Derived.Test.YtppbfikimalojaaGreatXAQ
import Derived.Maps.RangeWalk
import Derived.Deep.RegionHeld3
set_option maxHeartbeats 8000000
set_option maxRecDepth 100000
namespace Go.Proofs.YtppbfikimalojaaGreat
open Go.RowKit
def endsL (ls : List Lk) : List (Int × Int):=ls.flatMap fun l=>[(l.a,l.p),(l.b,l.q)]
theorem endsL_snoc (ls : List Lk) (l : Lk) : endsL (ls ++ [l]) = endsL ls ++ [(l.a,l.p),(l.b,l.q)]:=by simp [endsL]
theorem endsL_take {ls : List Lk} {k : Nat} {l : Lk} (h : ls[k]? = some l) : endsL (ls.take (k + 1)) = endsL (ls.take k) ++ [(l.a,l.p),(l.b,l.q)]:=by
 obtain ⟨hk,e⟩:=List.getElem?_eq_some_iff.1 h;rw [List.take_succ_eq_append_getElem hk,e,endsL_snoc]
theorem endsL_len : ∀ ls : List Lk,(endsL ls).length = 2 * ls.length
 | []=>rfl
 | l :: ls=>by
   have:=endsL_len ls;show (endsL ls).length + 1 + 1 = _;rw [this,List.length_cons];omega
theorem beqI (a b : Int) : (a == b) = (b == a):=by rw [Bool.eq_iff_iff];simp;exact eq_comm
theorem hasP_meet (l : Lk) : ∀ ls : List Lk,(hasP (endsL ls) (l.a,l.p) || hasP (endsL ls) (l.b,l.q)) = ls.any (fun m=>meetB m l)
 | []=>rfl
 | m :: ls=>by
   have ih:=hasP_meet l ls;unfold hasP at ih ⊢;rw [show endsL (m :: ls) = (m.a,m.p) :: (m.b,m.q) :: endsL ls from rfl,List.any_cons,List.any_cons,List.any_cons,List.any_cons,List.any_cons,<- ih];unfold meetB;rw [beqI l.a m.a,beqI l.p m.p,beqI l.b m.a,beqI l.q m.p,beqI l.a m.b,beqI l.p m.q,beqI l.b m.b,beqI l.q m.q];generalize ((m.a == l.a) && (m.p == l.p)) = x1;generalize ((m.a == l.b) && (m.p == l.q)) = x2;generalize ((m.b == l.a) && (m.q == l.p)) = x3;generalize ((m.b == l.b) && (m.q == l.q)) = x4;generalize (endsL ls).any (fun x=>((l.a,l.p) : Int × Int).1 == x.1 && ((l.a,l.p) : Int × Int).2 == x.2) = x5;generalize (endsL ls).any (fun x=>((l.b,l.q) : Int × Int).1 == x.1 && ((l.b,l.q) : Int × Int).2 == x.2) = x6;cases x1 <;> cases x2 <;> cases x3 <;> cases x4 <;> cases x5 <;> cases x6 <;> rfl
theorem ownsRow_bel {W W' : World} {B e size n : Nat} {v : Value} {xs : List Value} (h : W.ownsRow B e size v n xs) (hb : Below W.heap.size W W') : W'.ownsRow B e size v n xs:=by
 obtain ⟨hl,hc⟩:=h;refine ⟨hl,?_⟩;rcases hc with h0 | ⟨g,cap,cur,rfl,hbg,hg,rest⟩
 ·exact .inl h0
 ·exact .inr ⟨g,cap,cur,rfl,hbg,(hb.block g (Array.getElem?_eq_some_iff.1 hg).1).trans hg,rest⟩
theorem pl_yes {ds : List Dv} {d p : Int} : isPl ds d p = ((decide (0 <= d) && decide (d <= (ds.length : Int) - 1)) && (decide (0 <= p) && decide (p <= portsV (kindAt ds d) - 1))):=by
 unfold isPl;rw [show decide (d <= (ds.length : Int) - 1) = decide (d < (ds.length : Int)) by rw [decide_eq_decide];omega,show decide (p <= portsV (kindAt ds d) - 1) = decide (p < portsV (kindAt ds d)) by rw [decide_eq_decide];omega,Bool.and_assoc (decide (0 <= d) && decide (d < (ds.length : Int)))]
theorem nameOk_eq (s : ByteArray) : nameOk s = ((decide ((1 : Int) <= (s.size : Int)) && decide ((s.size : Int) <= 8)) && (s.data.toList.drop 0).all nameB):=by
 unfold nameOk;rw [show decide ((1 : Int) <= (s.size : Int)) = decide (1 <= s.size) by rw [decide_eq_decide];omega,show decide ((s.size : Int) <= 8) = decide (s.size <= 8) by rw [decide_eq_decide];omega];rfl
def EndS (w W : World) (n1 : Nat) (v1 v2 : Value) (a b c d : Value) (u : Value) (es : List (Int × Int)) : Prop :=
 Below w.heap.size w W /\ w.heap.size + 1 <= W.heap.size /\ Box2 W w.heap.size v1 v2 /\ Lk4 W n1 a b c d /\ W.ownsRow (w.heap.size + 1) 97 2 u es.length (cellsP es)
theorem EndS.keep {w W W' : World} {n1 : Nat} {v1 v2 a b c d u : Value} {es : List (Int × Int)} (h : EndS w W n1 v1 v2 a b c d u es) (hb : Below W.heap.size W W') : EndS w W' n1 v1 v2 a b c d u es :=
 ⟨chnN hb h.1,Nat.le_trans h.2.1 hb.size,h.2.2.1.below hb h.2.2.1.1,h.2.2.2.1.below hb h.2.2.2.1.1,ownsRow_bel h.2.2.2.2 hb⟩
theorem EndS.drewN {w W : World} {n1 : Nat} {v1 v2 a b c d u : Value} {es : List (Int × Int)} (h : EndS w W n1 v1 v2 a b c d u es) (n : Nat) : EndS w (W.drewN n) n1 v1 v2 a b c d u es:=h.keep (belowNN (Below.refl _ _) n)
theorem EndS.drew {w W : World} {n1 : Nat} {v1 v2 a b c d u : Value} {es : List (Int × Int)} (h : EndS w W n1 v1 v2 a b c d u es) : EndS w W.drew n1 v1 v2 a b c d u es:=h.keep (Below.refl _ _).drew
theorem EndS.cells {w W : World} {n1 : Nat} {v1 v2 a b c d u : Value} {es : List (Int × Int)} (h : EndS w W n1 v1 v2 a b c d u es) : W.cell? ⟨n1,0,none⟩ = some a /\ W.cell? ⟨n1,1,none⟩ = some b /\ W.cell? ⟨n1,2,none⟩ = some c /\ W.cell? ⟨n1,3,none⟩ = some d:=h.2.2.2.1.2
theorem EndS.below {w W : World} {n1 : Nat} {v1 v2 a b c d u : Value} {es : List (Int × Int)} (h : EndS w W n1 v1 v2 a b c d u es) : Below w.heap.size w W:=h.1
theorem rnet_row (A B : Option Addr) (cap cap' : Nat) (ds : List Dv) (ls : List Lk) (res : Int) (w : World) (hD : Hid (Devs w.heap.size w (.slice A ds.length cap) ds)) (hL : Hid (Links w.heap.size w (.slice B ls.length cap') ls)) (h10 : ds.length <= 10) (h15 : ls.length <= 15) (HR : Hid (res = if devsFrom ds 0 = 0 then linksFrom ds ls 0 else devsFrom ds 0)) :
  Calls Tryz.prog 7 #[.agg #[.slice A ds.length cap,.slice B ls.length cap']] w fun e w'=>e = .returned (.int .i64 res) /\ Below w.heap.size w w':=by
 obtain ⟨_,hc,hm⟩:=hD.out.len;obtain ⟨_,hc',hm'⟩:=hL.out.len;unfold maxLen at hm hm';have t10 : decide ((10 : Int) < (ds.length : Int)) = false:=by simp;omega
 have t15 : decide ((15 : Int) < (ls.length : Int)) = false:=by simp;omega
 have D0:=Below.alN (Below.refl w.heap.size w) (.cells #[.slice A ds.length cap,.slice B ls.length cap'] 25);have B0:=box2_new w (.slice A ds.length cap) (.slice B ls.length cap') 25;go_enter Tryz.func7,Tryz.ntmps7;go_wp2_with fail;go_loopw [3] (fun i wr=>∃ k : Nat,i = .int .i64 (k : Int) /\ k <= ds.length /\ Below w.heap.size w wr /\ Box2 wr w.heap.size (.slice A ds.length cap) (.slice B ls.length cap') /\ Hid (devsFrom ds 0 = devsFrom ds k)) (fun i _=>ds.length - (intOf i).toNat)
 case atStart=>exact ⟨0,rfl,by omega,D0,B0,rfl⟩
 case round =>
  clear D0 B0;obtain ⟨k,rfl,hk,D1,B1,hl⟩:=hrel;obtain ⟨_,b0,b1,_⟩:=id B1;by_cases hlt : k < ds.length
  ·obtain ⟨d,hxk⟩ : ∃ d,ds[k]? = some d:=⟨_,List.getElem?_eq_getElem hlt⟩;obtain ⟨b,o,vb,vr,vt,rfl,hb,z1,z2,z3,c0,c1,c2,c3,c4,c5,c6⟩:=(hD.out.below D1).at hxk;have y1:=z1;have y2:=z2;have y3:=z3;obtain ⟨Ab,cb,rfl,_,_,_,_⟩:=z1;obtain ⟨Ar,cr,rfl,_,_,_,_⟩:=z2;obtain ⟨At,ct,rfl,_,_,_,_⟩:=z3;have HF : Hid (devsFrom ds k = if devWrong ds k d = 0 then devsFrom ds (k + 1) else devWrong ds k d):=devsFrom_at hxk;have HW : Hid (devWrong ds k d = if nameOk d.name then (if (ds.take k).any (fun x=>x.name.toList == d.name.toList) then 5 else devC d) else 3):=rfl;have HNM : Hid (∀ j x,ds[j]? = some x -> ∀ W,Below w.heap.size w W -> W.cell? ⟨b,o + j * 7,none⟩ = some (.string x.name)):=fun j x hx W h=>by
    obtain ⟨b',o',_,_,_,e,_,_,_,_,q,_⟩:=(hD.out.below h).at hx;cases e;exact q
   have CD : Hid (∀ W,Below w.heap.size w W -> Calls Tryz.prog 33 #[devA d.name d.kind d.addr d.pool (.slice Ab d.backs.length cb) (.slice Ar d.rules.length cr) (.slice At d.routes.length ct)] W fun e w'=>e = .returned (.int .i64 (devC d)) /\ Below W.heap.size W w'):=fun W h=>by
    have hd:=hD.out.below h;obtain ⟨b',o',vb',vr',vt',e1,_,s1,s2,s3,q0,q1,q2,q3,q4,q5,q6⟩:=hd.at hxk;cases e1;have g4:=(D1.cell (p:=⟨b,o + k * 7 + 4,none⟩) hb).symm.trans c4;have g5:=(D1.cell (p:=⟨b,o + k * 7 + 5,none⟩) hb).symm.trans c5;have g6:=(D1.cell (p:=⟨b,o + k * 7 + 6,none⟩) hb).symm.trans c6;have f4:=(h.cell (p:=⟨b,o + k * 7 + 4,none⟩) hb).symm.trans q4;have f5:=(h.cell (p:=⟨b,o + k * 7 + 5,none⟩) hb).symm.trans q5;have f6:=(h.cell (p:=⟨b,o + k * 7 + 6,none⟩) hb).symm.trans q6;obtain rfl:=Option.some.inj (g4.symm.trans f4);obtain rfl:=Option.some.inj (g5.symm.trans f5);obtain rfl:=Option.some.inj (g6.symm.trans f6);have t1:=SlAt.mono s1 h.size (fun _ _ _ h=>h);have t2:=SlAt.mono s2 h.size (fun _ _ _ h=>h);have t3:=SlAt.mono s3 h.size (fun _ _ _ h=>h);exact rdevice_any d _ _ _ (checkV (d.routes.map rtOf)) W t1 t2 t3 (fun W' h'=>routes_any W' (routes_of (SlAt.mono (SlAt.below t3 h' (fun _ _ _ h=>h)) h'.size (fun _ _ _ h=>h))))
   have IN : Hid (∀ w,Calls Tryz.prog 8 #[.int .i64 (d.name.size : Int),.int .i64 1,.int .i64 8] w fun e w'=>e = .returned (.bool (decide (1 <= (d.name.size : Int)) && decide ((d.name.size : Int) <= 8))) /\ w' = w):=fun w=>inN _ 1 8 w;have HS : Hid (((decide ((1 : Int) <= (d.name.size : Int)) && decide ((d.name.size : Int) <= 8)) && (d.name.data.toList.drop 0).all nameB) = nameOk d.name):=(nameOk_eq d.name).symm;have hsz:=d.hs;unfold maxLen at hsz;have k1 : (0 : Int) <= (k : Int):=by omega
   have k2 : (k : Int) < (ds.length : Int):=by omega
   have lw:=D1.size;have HX : Hid (ds[k]? = some d):=hxk;clear hxk y1 y2 y3;generalize devC d = dc at *;generalize hnm : d.name = nm at *;have Hnm : Hid (d.name = nm):=hnm;clear hnm;generalize (decide (1 <= (nm.size : Int)) && decide ((nm.size : Int) <= 8)) = sx at *;generalize d.backs.length = nb at *;generalize d.rules.length = nr at *;generalize d.routes.length = nt at *;generalize d.kind = kd at *;generalize d.addr = ad at *;generalize d.pool = pl at *;have D2:=Below.alN D1 (.cells #[.string nm,.int .i64 kd,.int .i64 ad,.int .u8 (pl : Int),.slice Ab nb cb,.slice Ar nr cr,.slice At nt ct] 56);have B2:=B1.alloc (.cells #[.string nm,.int .i64 kd,.int .i64 ad,.int .u8 (pl : Int),.slice Ab nb cb,.slice Ar nr cr,.slice At nt ct] 56);have V2:=seven_new wr (.string nm) (.int .i64 kd) (.int .i64 ad) (.int .u8 (pl : Int)) (.slice Ab nb cb) (.slice Ar nr cr) (.slice At nt ct) 56;obtain ⟨_,v0,v1,v2,v3,v4,v5,v6⟩:=id V2;generalize hno : nameOk nm = nok at *;have Hno : Hid (nameOk nm = nok):=hno;clear hno;go_wp2_with fail;refine (IN.out _).mono ?_;rintro e w2 ⟨rfl,rfl⟩;clear c0 c1 c2 c3 c4 c5 c6 IN;go_wp2_with fail
   go_loop [5,6] (fun x j=>∃ (y : Bool) (i : Nat),x = .bool y /\ j = .int .i64 (i : Int) /\ i <= nm.size /\ Hid ((y && (nm.data.toList.drop i).all nameB) = nok)) (fun _ j=>nm.size - (intOf j).toNat)
   case atStart=>exact ⟨sx,0,rfl,rfl,by omega,HS⟩
   case round =>
    clear HS;obtain ⟨y,i,rfl,rfl,hi,hd⟩:=hrel;by_cases hil : i < nm.size
    ·have HA : Hid ((nm.data.toList.drop i).all nameB = (nameB nm[i] && (nm.data.toList.drop (i + 1)).all nameB)):=all_dropN nm i hil;have HN : Hid (nameB nm[i] = ((decide (97 <= (nm[i].toNat : Int)) && decide ((nm[i].toNat : Int) <= 122)) || (decide (48 <= (nm[i].toNat : Int)) && decide ((nm[i].toNat : Int) <= 57)))):=rfl;cases y
     ·have HV : Hid ((false && (nm.data.toList.drop (i + 1)).all nameB) = nok):=hd;clear hd HA HN;go_wp2_with fail
      go_round
      case rel=>exact ⟨false,i + 1,rfl,congrArg (Value.int .i64) (by omega),by omega,HV⟩
      case measure=>simp [intOf];omega
     ·cases a1 : decide (97 <= (nm[i].toNat : Int)) <;> cases a2 : decide ((nm[i].toNat : Int) <= 122) <;> cases a3 : decide (48 <= (nm[i].toNat : Int)) <;> cases a4 : decide ((nm[i].toNat : Int) <= 57)
      all_goals
       rw [a1,a2,a3,a4] at HN;first
        | (have HV : Hid ((true && (nm.data.toList.drop (i + 1)).all nameB) = nok) := by
            show _ = _;rw [<- hd.out,HA.out,HN.out];rfl
           clear HN HA hd;go_wp2_with fail
           go_round
           case rel=>exact ⟨true,i + 1,rfl,congrArg (Value.int .i64) (by omega),by omega,HV⟩
           case measure=>simp [intOf];omega)
        | (have HV : Hid ((false && (nm.data.toList.drop (i + 1)).all nameB) = nok) := by
            show _ = _;rw [<- hd.out,HA.out,HN.out];rfl
           clear HN HA hd;go_wp2_with fail
           go_round
           case rel=>exact ⟨false,i + 1,rfl,congrArg (Value.int .i64) (by omega),by omega,HV⟩
           case measure=>simp [intOf];omega)
    ·have HY : Hid (y = nok):=by
      show _ = _;rw [<- hd.out,List.drop_eq_nil_of_le (by rw [<- Lib.size_eq];omega)];simp
     clear hd;cases y
     ·have HV : Hid (res = 3):=by
       have e : devWrong ds k d = 3:=by rw [HW.out,<- HY.out];rfl
       show _ = _;rw [HR.out,hl.out,HF.out,e];rfl
      go_wp2_with fail;go_ret;exact ⟨by rw [HV.out];rfl,D2⟩
     ·have HW2 : Hid (devWrong ds k d = if (ds.take k).any (fun x=>x.name.toList == nm.toList) then 5 else dc):=by
       show _ = _;rw [HW.out,<- HY.out];rfl
      clear HW HY;go_wp2_with fail;go_loopw [8] (fun j wr'=>∃ i : Nat,j = .int .i64 (i : Int) /\ i <= k /\ Below w.heap.size w wr' /\ Box2 wr' w.heap.size (.slice (some ⟨b,o,none⟩) ds.length cap) (.slice B ls.length cap') /\ Seven wr' wr.heap.size (.string nm) (.int .i64 kd) (.int .i64 ad) (.int .u8 (pl : Int)) (.slice Ab nb cb) (.slice Ar nr cr) (.slice At nt ct) /\ Hid ((ds.take i).any (fun x=>x.name.toList == nm.toList) = false)) (fun j _=>k - (intOf j).toNat)
      case atStart=>exact ⟨0,rfl,by omega,D2,B2,V2,rfl⟩
      case round =>
       clear D2 B2 V2 v0 v1 v2 v3 v4 v5 v6 b0 b1 B1;obtain ⟨i,rfl,hik,D3,B3,V3,hno⟩:=hrel;obtain ⟨_,b0,b1,_⟩:=id B3;obtain ⟨_,v0,v1,v2,v3,v4,v5,v6⟩:=id V3;by_cases hij : i < k
       ·obtain ⟨x,hx⟩ : ∃ x,ds[i]? = some x:=⟨_,List.getElem?_eq_getElem (by omega)⟩;have cn:=HNM.out i x hx _ D3;have HT : Hid ((ds.take (i + 1)).any (fun x=>x.name.toList == nm.toList) = ((ds.take i).any (fun x=>x.name.toList == nm.toList) || (x.name.toList == nm.toList))):=by
         obtain ⟨hk',e⟩:=List.getElem?_eq_some_iff.1 hx;show _ = _;rw [List.take_succ_eq_append_getElem hk',e];simp
        have HM : Hid ((x.name.toList == nm.toList) = true -> (ds.take k).any (fun x=>x.name.toList == nm.toList) = true):=fun h=>List.any_eq_true.2 ⟨x,List.mem_of_getElem? (by rw [List.getElem?_take,if_pos hij];exact hx),h⟩;have j1 : (0 : Int) <= (i : Int):=by omega
        have j2 : (i : Int) < (ds.length : Int):=by omega
        have j3 : decide ((i : Int) < (k : Int)) = true:=by simp;omega
        clear hx;cases hv : (x.name.toList == nm.toList)
        ·have HV : Hid ((ds.take (i + 1)).any (fun x=>x.name.toList == nm.toList) = false):=by
          show _ = _;rw [HT.out,hno.out,hv];rfl
         clear HT HM hno;go_wp2_with fail
         go_quiet (fail)
         go_wp2_with fail;go_roundw
         case rel=>exact ⟨i + 1,by go_num,by omega,belowNN D3 _,B3,V3,HV⟩
         case measure=>simp [intOf];omega
        ·have HV : Hid (res = 5):=by
          have e : devWrong ds k d = 5:=by rw [HW2.out,HM.out hv];rfl
          show _ = _;rw [HR.out,hl.out,HF.out,e];rfl
         clear HT HM hno;go_wp2_with fail
         go_quiet (fail)
         go_wp2_with fail;go_ret;exact ⟨by rw [HV.out];rfl,belowNN D3 _⟩
       ·have j3 : decide ((i : Int) < (k : Int)) = false:=by simp;omega
        have HW3 : Hid (devWrong ds k d = dc):=by
         have e:=hno.out;rw [show i = k by omega] at e;show _ = _;rw [HW2.out,e];rfl
        clear HW2 hno;go_wp2_with fail;refine (CD.out _ D3).mono ?_;rintro e w5 ⟨rfl,hb5⟩;have D5:=chnN hb5 D3;have B5:=B3.below hb5 B3.1;clear hb5 D3 B3 V3 v0 v1 v2 v3 v4 v5 v6 b0 b1 CD;cases h0 : (dc == 0)
        ·have HV : Hid (res = dc):=by
          have hne : ¬ dc = 0:=by simpa using h0
          show _ = _;rw [HR.out,hl.out,HF.out,HW3.out,if_neg hne,if_neg hne]
         go_wp2_with fail;go_ret;exact ⟨by rw [HV.out];rfl,D5⟩
        ·have HV : Hid (devsFrom ds 0 = devsFrom ds (k + 1)):=by
          have he : dc = 0:=by simpa using h0
          show _ = _;rw [hl.out,HF.out,HW3.out,if_pos he]
         have h00 : dc = 0:=by simpa using h0
         subst h00;clear h0;go_wp2_with fail;go_roundw
         case rel=>first | exact ⟨k + 1,by go_num,by omega,D5,B5,HV⟩ | ((repeat apply Exists.intro);exact ⟨⟨k + 1,by go_num,by omega,D5,B5,HV⟩,rfl⟩)
         case measure=>simp [intOf];omega
  ·have HZ : Hid (res = linksFrom ds ls 0):=by
    show _ = _;rw [HR.out,hl.out,devsFrom_end (by omega),if_pos rfl]
   clear hl HR;go_wp2_with fail;go_loopw [10,11] (fun ve i wr=>∃ k : Nat,i = .int .i64 (k : Int) /\ k <= ls.length /\ w.heap.size + 1 <= wr.heap.size /\ Below w.heap.size w wr /\ Box2 wr w.heap.size (.slice A ds.length cap) (.slice B ls.length cap') /\ wr.ownsRow (w.heap.size + 1) 97 2 ve (endsL (ls.take k)).length (cellsP (endsL (ls.take k))) /\ Hid (res = linksFrom ds ls k)) (fun _ i _=>ls.length - (intOf i).toNat)
   case atStart=>exact ⟨0,rfl,by omega,B1.1,D1,B1,⟨rfl,.inl ⟨rfl,rfl⟩⟩,HZ⟩
   case round =>
    clear D1 B1 HZ b0 b1;obtain ⟨j,rfl,hj,hsz,D1,B1,O1,hl⟩:=hrel;obtain ⟨_,b0,b1,_⟩:=id B1;by_cases hjl : j < ls.length
    ·obtain ⟨l,hxk⟩ : ∃ l,ls[j]? = some l:=⟨_,List.getElem?_eq_getElem hjl⟩;obtain ⟨b,o,rfl,hb,c0,c1,c2,c3⟩:=(hL.out.below D1).at hxk;have HF : Hid (linksFrom ds ls j = if linkWrong ds ls j l = 0 then linksFrom ds ls (j + 1) else linkWrong ds ls j l):=linksFrom_at hxk;have HW : Hid (linkWrong ds ls j l = if isPl ds l.a l.p && isPl ds l.b l.q then (if selfB l || (hasP (endsL (ls.take j)) (l.a,l.p) || hasP (endsL (ls.take j)) (l.b,l.q)) then 5 else 0) else 1):=by
      show _ = _;rw [hasP_meet];rfl
     have HE : Hid (endsL (ls.take (j + 1)) = endsL (ls.take j) ++ [(l.a,l.p),(l.b,l.q)]):=endsL_take hxk;have LE : Hid ((endsL (ls.take j)).length <= 1000):=by show _ <= _;rw [endsL_len,List.length_take];omega
     have HSELF : Hid (selfB l = ((l.a == l.b) && (l.p == l.q))):=rfl;have k1 : (0 : Int) <= (j : Int):=by omega
     have k2 : (j : Int) < (ls.length : Int):=by omega
     have lw:=D1.size;clear hxk;generalize endsL (ls.take j) = es at *;generalize selfB l = sf at *;generalize hla : l.a = la at *;generalize hlp : l.p = lp at *;generalize hlb : l.b = lb at *;generalize hlq : l.q = lq at *;clear hla hlp hlb hlq;have D2:=Below.alN D1 (.cells #[.int .i64 la,.int .i64 lp,.int .i64 lb,.int .i64 lq] 96);have B2:=B1.alloc (.cells #[.int .i64 la,.int .i64 lp,.int .i64 lb,.int .i64 lq] 96);have D3:=Below.alN D2 (.cells #[.int .i64 la,.int .i64 lp,.int .i64 lb,.int .i64 lq] 97);have B3:=B2.alloc (.cells #[.int .i64 la,.int .i64 lp,.int .i64 lb,.int .i64 lq] 97);have L3:=lk4_new (wr.alloc (.cells #[.int .i64 la,.int .i64 lp,.int .i64 lb,.int .i64 lq] 96)) (.int .i64 la) (.int .i64 lp) (.int .i64 lb) (.int .i64 lq) 97;rw [World.size_alloc] at L3;have O3:=ownsRow_bel (ownsRow_bel O1 ((Below.refl _ _).alloc (Nat.le_refl _) (.cells #[.int .i64 la,.int .i64 lp,.int .i64 lb,.int .i64 lq] 96))) ((Below.refl _ _).alloc (Nat.le_refl _) (.cells #[.int .i64 la,.int .i64 lp,.int .i64 lb,.int .i64 lq] 97));have E3 : EndS w ((wr.alloc (.cells #[.int .i64 la,.int .i64 lp,.int .i64 lb,.int .i64 lq] 96)).alloc (.cells #[.int .i64 la,.int .i64 lp,.int .i64 lb,.int .i64 lq] 97)) (wr.heap.size + 1) (.slice A ds.length cap) (.slice (some ⟨b,o,none⟩) ls.length cap') (.int .i64 la) (.int .i64 lp) (.int .i64 lb) (.int .i64 lq) u10 es:=⟨D3,by simp;omega,B3,L3,O3⟩;go_wp2_with fail;clear c0 c1 c2 c3 D1 D2 B1 B2 O1 b0 b1 D3 B3 L3 O3;generalize wr.heap.size + 1 = n1 at *;go_loopw [14] (fun x wr'=>∃ i : Nat,x = .int .i64 (i : Int) /\ i <= 2 /\ EndS w wr' n1 (.slice A ds.length cap) (.slice (some ⟨b,o,none⟩) ls.length cap') (.int .i64 la) (.int .i64 lp) (.int .i64 lb) (.int .i64 lq) u10 es /\ Hid ((0 < i -> isPl ds la lp = true) /\ (1 < i -> isPl ds lb lq = true))) (fun x _=>2 - (intOf x).toNat)
     case atStart=>exact ⟨0,rfl,by omega,E3,⟨fun h=>by omega,fun h=>by omega⟩⟩
     case round =>
      clear E3;obtain ⟨i,rfl,hi2,E3,HP⟩:=hrel;obtain ⟨_,b0,b1,_⟩:=id E3.2.2.1;obtain ⟨m0,m1,m2,m3⟩:=E3.cells;by_cases hi : i < 2
      ·obtain ⟨d,p,cd,cp,HQ⟩ : ∃ d p : Int,wr.cell? ⟨n1,i * 2,none⟩ = some (.int .i64 d) /\ wr.cell? ⟨n1,i * 2 + 1,none⟩ = some (.int .i64 p) /\ Hid ((i = 0 /\ d = la /\ p = lp) ∨ (i = 1 /\ d = lb /\ p = lq)):=by
        by_cases h : i = 0
        ·subst h;exact ⟨la,lp,m0,m1,Or.inl ⟨rfl,rfl,rfl⟩⟩
        ·obtain rfl : i = 1:=by omega
         exact ⟨lb,lq,m2,m3,Or.inr ⟨rfl,rfl,rfl⟩⟩
       have HBAD : Hid (isPl ds d p = false -> res = 1):=fun h=>by
        have e : linkWrong ds ls j l = 1:=by
         rw [HW.out];rcases HQ.out with ⟨_,rfl,rfl⟩ | ⟨_,rfl,rfl⟩
         ·rw [h];rfl
         ·rw [h,Bool.and_false];rfl
        rw [hl.out,HF.out,e];rfl
       have HGOOD : Hid (isPl ds d p = true -> ((0 < i + 1 -> isPl ds la lp = true) /\ (1 < i + 1 -> isPl ds lb lq = true))):=fun h=>by
        rcases HQ.out with ⟨rfl,rfl,rfl⟩ | ⟨rfl,rfl,rfl⟩
        ·exact ⟨fun _=>h,fun h1=>by omega⟩
        ·exact ⟨fun _=>HP.out.1 (by omega),fun _=>h⟩
       have HPL : Hid (isPl ds d p = ((decide (0 <= d) && decide (d <= (ds.length : Int) - 1)) && (decide (0 <= p) && decide (p <= portsV (kindAt ds d) - 1)))):=pl_yes;clear HQ HP m0 m1 m2 m3;have i1 : (0 : Int) <= (i : Int):=by omega
       have i2 : (i : Int) < 2:=by omega
       have wl : IntKind.i64.wrap ((ds.length : Int) - 1) = (ds.length : Int) - 1:=by rw [IntKind.wrap_i64] <;> omega
       have I0 : Hid (∀ w,Calls Tryz.prog 8 #[.int .i64 d,.int .i64 0,.int .i64 ((ds.length : Int) - 1)] w fun e w'=>e = .returned (.bool (decide (0 <= d) && decide (d <= (ds.length : Int) - 1))) /\ w' = w):=fun w=>inN _ 0 _ w;cases hx0 : (decide (0 <= d) && decide (d <= (ds.length : Int) - 1))
       ·have HV : Hid (res = 1):=HBAD.out (by rw [HPL.out,hx0];rfl);rw [hx0] at I0;clear HBAD HGOOD HPL hx0;go_wp2_with fail
        go_quiet ((go_at_call 8;exact Calls.quiet_of_same (I0.out _)))
        go_wp2_with fail;go_ret;exact ⟨by rw [HV.out];rfl,(E3.drewN _).below⟩
       ·have hd : 0 <= d /\ d <= (ds.length : Int) - 1:=by simpa using hx0
        rw [hx0] at I0 HPL;clear hx0;obtain ⟨i',rfl⟩ : ∃ i' : Nat,d = (i' : Int):=⟨d.toNat,by omega⟩;have hil : i' < ds.length:=by omega
        obtain ⟨x,hx⟩ : ∃ x,ds[i']? = some x:=⟨_,List.getElem?_eq_getElem hil⟩;obtain ⟨bd,od,_,_,_,rfl,hbd,_,_,_,_,ck,_⟩:=(hD.out.below E3.1).at hx;have ek : kindAt ds (i' : Int) = x.kind:=by
         unfold kindAt;rw [Int.toNat_natCast,hx];rfl
        rw [ek] at HPL;obtain ⟨pk,hpk,hp4⟩:=portsV_nat x.kind;have PO : Hid (∀ w,Calls Tryz.prog 19 #[.int .i64 x.kind] w fun e w'=>e = .returned (.int .i64 (portsV x.kind)) /\ Below w.heap.size w w'):=fun w=>rports_any x.kind w;rw [hpk] at PO HPL;have wp : IntKind.i64.wrap ((pk : Int) - 1) = (pk : Int) - 1:=by rw [IntKind.wrap_i64] <;> omega
        have I1 : Hid (∀ w,Calls Tryz.prog 8 #[.int .i64 p,.int .i64 0,.int .i64 ((pk : Int) - 1)] w fun e w'=>e = .returned (.bool (decide (0 <= p) && decide (p <= (pk : Int) - 1))) /\ w' = w):=fun w=>inN _ 0 _ w;have j1 : (0 : Int) <= (i' : Int):=by omega
        have j2 : (i' : Int) < (ds.length : Int):=by omega
        clear hx hd ek hpk;generalize (decide (0 <= p) && decide (p <= (pk : Int) - 1)) = y at *;generalize x.kind = kd at *;have E4:=E3.drew;go_wp2_with fail;go_region_held3 (fun w'=>w'.cell? ⟨n1,i * 2,none⟩ = some (.int .i64 (i' : Int)) /\ w'.cell? ⟨n1,i * 2 + 1,none⟩ = some (.int .i64 p) /\ w'.cell? ⟨w.heap.size,0,none⟩ = some (.slice (some ⟨bd,od,none⟩) ds.length cap) /\ w'.cell? ⟨bd,od + i' * 7 + 1,none⟩ = some (.int .i64 kd)) (go_keep) (first | (go_at_call 19;refine (PO.out _).mono ?_;rintro e w4 ⟨rfl,hb4⟩;have E5:=E4.keep hb4;have cd5:=(hb4.cell (p:=⟨n1,i * 2,none⟩) E4.2.2.2.1.1).trans cd;have cp5:=(hb4.cell (p:=⟨n1,i * 2 + 1,none⟩) E4.2.2.2.1.1).trans cp;have ck5:=(hb4.cell (p:=⟨bd,od + i' * 7 + 1,none⟩) (Nat.lt_of_lt_of_le hbd E4.1.size)).trans ck;have b05:=(hb4.cell (p:=⟨w.heap.size,0,none⟩) E4.2.2.1.1).trans b0) | (go_at_call_of 8 (Value.int .i64 (i' : Int));refine (I0.out _).mono ?_;rintro e w5 ⟨rfl,rfl⟩) | (go_at_call_of 8 (Value.int .i64 p);refine (I1.out _).mono ?_;rintro e w6 ⟨rfl,rfl⟩))
        cases y
        ·have HV : Hid (res = 1):=HBAD.out (by rw [HPL.out];rfl);clear HBAD HGOOD HPL;go_wp2_with fail;go_ret;exact ⟨by rw [HV.out];rfl,E5.below⟩
        ·have HV:=HGOOD.out (by rw [HPL.out];rfl);clear HBAD HGOOD HPL;go_wp2_with fail;go_roundw
         case rel=>exact ⟨i + 1,by go_num,by omega,E5,HV⟩
         case measure=>simp [intOf];omega
      ·obtain ⟨hp1,hp2⟩:=HP.out;have HW2 : Hid (linkWrong ds ls j l = if sf || (hasP es (la,lp) || hasP es (lb,lq)) then 5 else 0):=by
        show _ = _;rw [HW.out,hp1 (by omega),hp2 (by omega)];rfl
       clear hp1 hp2 HP HW m0 m1 m2 m3;obtain rfl : i = 2:=by omega
       have C1 : Hid (∀ W,EndS w W n1 (.slice A ds.length cap) (.slice (some ⟨b,o,none⟩) ls.length cap') (.int .i64 la) (.int .i64 lp) (.int .i64 lb) (.int .i64 lq) u10 es -> Calls Tryz.prog 34 #[u10,prV la lp] W fun e w'=>e = .returned (.bool (hasP es (la,lp))) /\ Below W.heap.size W w'):=fun W h=>pairHas_any u10 es la lp W (Prs.own h.2.2.2.2);have C2 : Hid (∀ W,EndS w W n1 (.slice A ds.length cap) (.slice (some ⟨b,o,none⟩) ls.length cap') (.int .i64 la) (.int .i64 lp) (.int .i64 lb) (.int .i64 lq) u10 es -> Calls Tryz.prog 34 #[u10,prV lb lq] W fun e w'=>e = .returned (.bool (hasP es (lb,lq))) /\ Below W.heap.size W w'):=fun W h=>pairHas_any u10 es lb lq W (Prs.own h.2.2.2.2);have APP : Hid (∀ W,EndS w W n1 (.slice A ds.length cap) (.slice (some ⟨b,o,none⟩) ls.length cap') (.int .i64 la) (.int .i64 lp) (.int .i64 lb) (.int .i64 lq) u10 es -> ∃ v' w',(Builtin.append_ #[94,94] 94 #[u10,.slice (some ⟨n1,0,none⟩) 2 2]).run Tryz.prog W = .ok v' w' /\ w.heap.size + 1 <= w'.heap.size /\ Below w.heap.size w w' /\ Box2 w' w.heap.size (.slice A ds.length cap) (.slice (some ⟨b,o,none⟩) ls.length cap') /\ w'.ownsRow (w.heap.size + 1) 97 2 v' (es ++ [(la,lp),(lb,lq)]).length (cellsP (es ++ [(la,lp),(lb,lq)]))):=fun W h=>by
        obtain ⟨h1,h2,h3,h4,h5⟩:=h;obtain ⟨_,q0,q1,q2,q3⟩:=h4;obtain ⟨v',w',r1,r2,r3⟩:=app_pairs 94 h5 q0 q1 q2 q3 (by have:=LE.out;omega) h2;have hbl : Below (w.heap.size + 1) W w':=Below.app2 (Below.refl _ _) h5 r3 (Nat.le_refl _) h2;exact ⟨v',w',r1,Nat.le_trans h2 hbl.size,Below.app2 h1 h5 r3 (by omega) h2,h3.below hbl (by omega),r2⟩
       have PE : ∀ w,(binOp .eql 97 (prV la lp) (prV lb lq)).run Tryz.prog w = .ok (.bool sf) w:=fun w=>by rw [pair_eq,<- HSELF.out]
       generalize hasP es (la,lp) = x1 at *;generalize hasP es (lb,lq) = x2 at *;have E4:=E3.drew;have H5 : Hid ((sf || (x1 || x2)) = true -> res = 5):=fun h=>by
        have e : linkWrong ds ls j l = 5:=by rw [HW2.out,h];rfl
        rw [hl.out,HF.out,e];rfl
       have H0 : Hid ((sf || (x1 || x2)) = false -> res = linksFrom ds ls (j + 1)):=fun h=>by
        have e : linkWrong ds ls j l = 0:=by rw [HW2.out,h];rfl
        rw [hl.out,HF.out,e];rfl
       clear HW2 HF hl HSELF;cases sf
       ·cases x1
        ·have H6 : Hid (x2 = true -> res = 5):=fun h=>H5.out (by rw [h];rfl);have H7 : Hid (x2 = false -> res = linksFrom ds ls (j + 1)):=fun h=>H0.out (by rw [h];rfl);clear H5 H0;go_wp2_with fail;refine wp_region_held_drew (S:=(fun w'=>w'.cell? ⟨n1,0,none⟩ = some (.int .i64 la) /\ w'.cell? ⟨n1,1,none⟩ = some (.int .i64 lp) /\ w'.cell? ⟨n1,2,none⟩ = some (.int .i64 lb) /\ w'.cell? ⟨n1,3,none⟩ = some (.int .i64 lq))) (by kernel_rfl) (EndS.cells (n1:=n1) ‹_›) (fun hHeld=>?_);refine tk 0 ?_;try simp only [ly]
         refine tk 1 ?_;try simp only [ly]
         refine tk 2 ?_;try simp only [ly]
         refine tk 3 ?_;try simp only [ly]
         refine tk 4 ?_;try simp only [ly]
         refine tk 5 ?_;try simp only [ly]
         refine tk 6 ?_;try simp only [ly]
         refine tk 7 ?_;try simp only [ly]
         refine tk 8 ?_;try simp only [ly]
         refine tk 9 ?_;try simp only [ly]
         refine tk 10 ?_;try simp only [ly]
         refine tk 11 ?_;try simp only [ly]
         refine rd 12 (fun K hK=>?_);go_simp;refine (C1.out _ ‹_›).mono ?_;rintro e wz ⟨rfl,hbz⟩;have Ez:=EndS.keep (n1:=n1) ‹_› hbz;clear hbz;try go_wp2_with fail
         clear hHeld;refine hK.out _ _ (EndS.cells (n1:=n1) ‹_›) (fun hHeld=>?_);clear hK K;try simp only [ly]
         refine tk 13 ?_;try simp only [ly]
         refine tk 14 ?_;try simp only [ly]
         refine tk 15 ?_;try simp only [ly]
         refine tk 16 ?_;try simp only [ly]
         refine tk 17 ?_;try simp only [ly]
         refine tk 18 ?_;try simp only [ly]
         refine rd 19 (fun K hK=>?_);go_simp;refine (C2.out _ ‹_›).mono ?_;rintro e wz ⟨rfl,hbz⟩;have Ez:=EndS.keep (n1:=n1) ‹_› hbz;clear hbz;try go_wp2_with fail
         clear hHeld;refine hK.out _ _ (EndS.cells (n1:=n1) ‹_›) (fun hHeld=>?_);clear hK K;try simp only [ly]
         refine tk 20 ?_;try simp only [ly]
         refine wpAnyH_done (by kernel_rfl) ?_ _;cases x2
         ·have HV : Hid (res = linksFrom ds ls (j + 1)):=H7.out rfl;obtain ⟨v5,w5,r5,s5,D5,B5,O5⟩:=APP.out _ ‹_›;rw [<- HE.out] at O5;go_wp2_with (at_builtin;refine append_run2 rfl _ _ 94 rfl rfl rfl r5 ?_);go_roundw
          case rel=>first | exact ⟨j + 1,by go_num,by omega,s5,D5,B5,O5,HV⟩ | ((repeat apply Exists.intro);exact ⟨⟨j + 1,by go_num,by omega,s5,D5,B5,O5,HV⟩,rfl⟩)
          case measure=>simp [intOf];omega
         ·have HV : Hid (res = 5):=H6.out rfl;go_wp2_with fail;go_ret;exact ⟨by rw [HV.out];rfl,EndS.below ‹_›⟩
        ·have HV : Hid (res = 5):=H5.out rfl;clear H5 H0;go_wp2_with fail;refine wp_region_held_drew (S:=(fun w'=>w'.cell? ⟨n1,0,none⟩ = some (.int .i64 la) /\ w'.cell? ⟨n1,1,none⟩ = some (.int .i64 lp) /\ w'.cell? ⟨n1,2,none⟩ = some (.int .i64 lb) /\ w'.cell? ⟨n1,3,none⟩ = some (.int .i64 lq))) (by kernel_rfl) (EndS.cells (n1:=n1) ‹_›) (fun hHeld=>?_);refine tk 0 ?_;try simp only [ly]
         refine tk 1 ?_;try simp only [ly]
         refine tk 2 ?_;try simp only [ly]
         refine tk 3 ?_;try simp only [ly]
         refine tk 4 ?_;try simp only [ly]
         refine tk 5 ?_;try simp only [ly]
         refine tk 6 ?_;try simp only [ly]
         refine tk 7 ?_;try simp only [ly]
         refine tk 8 ?_;try simp only [ly]
         refine tk 9 ?_;try simp only [ly]
         refine tk 10 ?_;try simp only [ly]
         refine tk 11 ?_;try simp only [ly]
         refine rd 12 (fun K hK=>?_);go_simp;refine (C1.out _ ‹_›).mono ?_;rintro e wz ⟨rfl,hbz⟩;have Ez:=EndS.keep (n1:=n1) ‹_› hbz;clear hbz;try go_wp2_with fail
         clear hHeld;refine hK.out _ _ (EndS.cells (n1:=n1) ‹_›) (fun hHeld=>?_);clear hK K;try simp only [ly]
         refine tk 13 ?_;try simp only [ly]
         refine tk 14 ?_;try simp only [ly]
         refine tk0 15 ?_;try simp only [ly]
         refine tk0 16 ?_;try simp only [ly]
         refine tk0 17 ?_;try simp only [ly]
         refine tk0 18 ?_;try simp only [ly]
         refine tk0 19 ?_;try simp only [ly]
         refine tk 20 ?_;try simp only [ly]
         refine wpAnyH_done (by kernel_rfl) ?_ _;go_wp2_with fail;go_ret;exact ⟨by rw [HV.out];rfl,EndS.below ‹_›⟩
       ·have HV : Hid (res = 5):=H5.out rfl;clear H5 H0;go_wp2_with fail;refine wp_region_held_drew (S:=(fun w'=>w'.cell? ⟨n1,0,none⟩ = some (.int .i64 la) /\ w'.cell? ⟨n1,1,none⟩ = some (.int .i64 lp) /\ w'.cell? ⟨n1,2,none⟩ = some (.int .i64 lb) /\ w'.cell? ⟨n1,3,none⟩ = some (.int .i64 lq))) (by kernel_rfl) (EndS.cells (n1:=n1) ‹_›) (fun hHeld=>?_);refine tk 0 ?_;try simp only [ly]
        refine tk 1 ?_;try simp only [ly]
        refine tk 2 ?_;try simp only [ly]
        refine tk 3 ?_;try simp only [ly]
        refine tk 4 ?_;try simp only [ly]
        refine tk 5 ?_;try simp only [ly]
        refine tk 6 ?_;try simp only [ly]
        refine tk 7 ?_;try simp only [ly]
        refine tk0 8 ?_;try simp only [ly]
        refine tk0 9 ?_;try simp only [ly]
        refine tk0 10 ?_;try simp only [ly]
        refine tk0 11 ?_;try simp only [ly]
        refine tk0 12 ?_;try simp only [ly]
        refine tk 13 ?_;try simp only [ly]
        refine tk 14 ?_;try simp only [ly]
        refine tk0 15 ?_;try simp only [ly]
        refine tk0 16 ?_;try simp only [ly]
        refine tk0 17 ?_;try simp only [ly]
        refine tk0 18 ?_;try simp only [ly]
        refine tk0 19 ?_;try simp only [ly]
        refine tk 20 ?_;try simp only [ly]
        refine wpAnyH_done (by kernel_rfl) ?_ _;go_wp2_with fail;go_ret;exact ⟨by rw [HV.out];rfl,EndS.below ‹_›⟩
    ·have HV : Hid (res = 0):=by
      show _ = _;rw [hl.out,linksFrom_end (by omega)]
     go_wp2_with fail;go_ret;exact ⟨by rw [HV.out];rfl,D1⟩
end Go.Proofs.YtppbfikimalojaaGreat
namespace Go.Proofs.YtppbfikimalojaaGreat
open Go.RowKit Go.Maps
section
variable {w w' : World} {k : Nat} {c : Array Value} {t : TypeId}
theorem Bz.keepR (h : Bz w k c t) (hb : Below w.heap.size w w') : Bz w' k c t:=(hb.block k h.lt).trans h
end
section
variable {base q a M : Nat} {w0 w : World} {ns : List Nd} {er : Int}
end
def S8 : Nat -> Bool:=fun v=>decide (v < 8)
theorem devsFrom_allR {ds : List Dv} : ∀ (m k : Nat),ds.length - k <= m -> devsFrom ds k = 0 -> ∀ j d,k <= j -> ds[j]? = some d -> devWrong ds j d = 0
 | 0,k,h,_,j,d,hj,hd=>by
   have:=(List.getElem?_eq_some_iff.1 hd).1;omega
 | m + 1,k,h,h0,j,d,hj,hd=>by
   have hjl:=(List.getElem?_eq_some_iff.1 hd).1;have hk : k < ds.length:=by omega
   rw [devsFrom_at (List.getElem?_eq_getElem hk)] at h0
   split at h0
   ·rename_i hw
    by_cases e : j = k
    ·subst e;rw [List.getElem?_eq_getElem hk,Option.some.injEq] at hd;rw [<- hd];exact hw
    ·exact devsFrom_allR m (k + 1) (by omega) h0 j d (by omega) hd
   ·rename_i hw
    exact absurd h0 hw
theorem netV_devsR {ds : List Dv} {ls : List Lk} (h : netV ds ls = 0) : ∀ d ∈ ds,devC d = 0:=by
 intro d hd;obtain ⟨k,hk,e⟩:=List.mem_iff_getElem.1 hd;unfold netV at h
 split at h
 ·simp at h
 ·split at h
  ·rename_i hz
   have:=devsFrom_allR ds.length 0 (by omega) hz k d (Nat.zero_le _) (by rw [List.getElem?_eq_getElem hk,e]);unfold devWrong at this
   split at this
   ·split at this
    ·simp at this
    ·exact this
   ·simp at this
  ·rename_i hz
   exact absurd h hz
def linkCR (l : Lk) : List Value:=[.int .i64 l.a,.int .i64 l.p,.int .i64 l.b,.int .i64 l.q]
def linksCR (ls : List Lk) : List Value:=ls.flatMap linkCR
structure FL (w : World) (vd vl : Value) (pc : Array Value) (MB : Nat) (vm : Value) (ms : List Lk) (W : World) : Prop where
 be : Below w.heap.size w W
 bN : Bz W w.heap.size #[vd,vl] 25
 bP : Bz W (w.heap.size + 1) pc 29
 bM : Bz W MB #[vd,vm] 25
 row : W.ownsRow w.heap.size 96 4 vm ms.length (linksCR ms)
 lM : w.heap.size + 1 < MB
section
variable {w W W' : World} {vd vl vm : Value} {pc : Array Value} {MB : Nat} {ms : List Lk}
end
theorem keyInt {m : Nat} {u : Value} {l : List Lit} (h : Tryz.prog.keyLits (m + 1) 3 [u] = some l) : ∃ n,u = .int .i64 n /\ i64ok n:=by
 unfold Program.keyLits at h;simp only [Tryz.underlying3] at h
 split at h
 case h_2 h1 h2 =>
  cases h1;simp at h2;subst h2
  split at h
  ·rename_i hc
   obtain ⟨rfl,hw⟩:=hc;exact ⟨_,rfl,hw⟩
  ·cases h
 case h_1 h1 h2=>cases h1
 case h_3 h1 h2=>cases h1
 case h_4 h1=>cases h1
 case h_5 h1=>cases h1
 case h_6=>cases h
theorem invPlc (key : Value) (kl : Lit) (h : keyOf Tryz.prog 27 key = some kl) : ∃ x : {t : Int × Int // prtOk t},key = prtV x.1:=by
 obtain ⟨m,hm⟩:=fuelS;unfold keyOf at h;simp only [Tryz.underlying27] at h
 split at h
 ·rename_i hc
  have hf : key.formed Tryz.prog 27 = true:=by
   rw [Bool.and_eq_true] at hc;exact hc.2
  rw [hm] at h;obtain ⟨ls,h,_⟩:=Option.map_eq_some_iff.1 h;cases key with
  | agg cs =>
    obtain ⟨cs⟩:=cs;simp only [Value.cells] at h;have hl : cs.length = 2:=by
     simp only [Value.formed,Tryz.underlying27] at hf;have : Tryz.prog.cellsOf 27 = 2:=by kernel_rfl
     rw [this] at hf;simpa using hf
    match cs,hl with
    | [u,v],_ =>
      unfold Program.keyLits at h;simp only [Tryz.underlying27] at h
      split at h
      ·cases hu : Tryz.prog.keyLits (m + 2) 3 [u] with
       | none=>simp [cInt,hu] at h
       | some l1 =>
         cases hv : Tryz.prog.keyLits (m + 2) 3 [v] with
         | none=>simp [cInt,hu,hv] at h
         | some l2 =>
           obtain ⟨a,rfl,ha⟩:=keyInt hu;obtain ⟨b,rfl,hb⟩:=keyInt hv;exact ⟨⟨(a,b),ha,hb⟩,rfl⟩
      ·cases h
  | _=>simp [Value.formed,Tryz.underlying27] at hf
 ·cases h
theorem rnet_any (vd vl : Value) (ds : List Dv) (ls : List Lk) (w : World) (hD : Devs w.heap.size w vd ds) (hL : Links w.heap.size w vl ls) :
  Calls Tryz.prog 7 #[.agg #[vd,vl]] w fun e w'=>e = .returned (.int .i64 (netV ds ls)) /\ Below w.heap.size w w':=by
 have hD0:=hD;have hL0:=hL;obtain ⟨A,cap,rfl,_,_,_,_⟩:=hD;obtain ⟨B,cap',rfl,_,_,_,_⟩:=hL;unfold netV;by_cases h : 10 < ds.length ∨ 15 < ls.length
 ·rw [if_pos h];have D0:=Below.alN (Below.refl w.heap.size w) (.cells #[.slice A ds.length cap,.slice B ls.length cap'] 25);clear hD0 hL0;by_cases h10 : 10 < ds.length
  ·have t10 : decide ((10 : Int) < (ds.length : Int)) = true:=by simp;omega
   clear h;go_enter Tryz.func7,Tryz.ntmps7;go_wp2_with fail;go_ret;exact ⟨rfl,D0⟩
  ·have t10 : decide ((10 : Int) < (ds.length : Int)) = false:=by simp;omega
   have t15 : decide ((15 : Int) < (ls.length : Int)) = true:=by simp;omega
   clear h;go_enter Tryz.func7,Tryz.ntmps7;go_wp2_with fail;go_ret;exact ⟨rfl,D0⟩
 ·rw [if_neg h];exact rnet_row A B cap cap' ds ls _ w hD0 hL0 (by omega) (by omega) rfl
theorem rnew_law (A B : Option Addr) (cap cap' : Nat) (ds : List Dv) (ls : List Lk) (m : Int) (w : World) (hD : Devs w.heap.size w (.slice A ds.length cap) ds) (hL : Links w.heap.size w (.slice B ls.length cap') ls) :
  Calls Tryz.prog 6 #[.agg #[.slice A ds.length cap,.slice B ls.length cap'],.int .i64 m] w fun e w'=>Below w.heap.size w w' /\ ((∃ R : Nat,e = .returned (.tuple #[.pointer (some ⟨R,0,none⟩),.int .i64 0]) /\ Hid (netV ds ls = 0 /\ (2 <= m /\ m <= 40000) /\ ∃ (bR MR most K : Nat) (sl : Value) (xs : List Value) (ns : List Nd) (s : Nat -> Nat -> Nat -> Nat),RcF ds ls bR R MR most K sl xs ns s w')) ∨ ∃ er : Int,e = .returned (.tuple #[.pointer none,.int .i64 er]) /\ Hid (er ≠ 0 /\ (netV ds ls = 0 -> 2 <= m /\ m <= 40000 -> er = 6) /\ (netV ds ls = 0 -> ¬ (2 <= m /\ m <= 40000) -> er = 1) /\ (netV ds ls ≠ 0 -> er = netV ds ls))):=by
 by_cases hz : netV ds ls = 0
 ·by_cases hm : 2 <= m /\ m <= 40000
  ·obtain ⟨most,rfl⟩ : ∃ k : Nat,m = (k : Int):=⟨m.toNat,by omega⟩;refine (rnew_any A B cap cap' ds ls most (by omega) (by omega) hz (netV_devsR hz) hD hL 40000 True (fun k _ i q a b d hd _ _ _=>widB_any (netV_devsR hz d (List.mem_of_getElem? hd)) _ _ _ _ _ _)).mono fun e w' h=>?_;obtain ⟨hb,⟨bR,R,MR,K,sl,xs,ns,s,h1,h2,hF⟩ | ⟨h1,_⟩⟩:=h.made
   ·exact ⟨hb,Or.inl ⟨R,h1,hz,hm,bR,MR,most,K,sl,xs,ns,s,hF⟩⟩
   ·exact ⟨hb,Or.inr ⟨6,h1,by omega,fun _ _=>rfl,fun _ h=>absurd hm h,fun h=>absurd hz h⟩⟩
  ·refine (rnew_most _ _ ds ls m w hD hL hz (by omega)).mono fun e w' ⟨h1,h2⟩=>⟨h2,Or.inr ⟨1,h1,by omega,fun _ h=>absurd h hm,fun _ _=>rfl,fun h=>absurd hz h⟩⟩
 ·exact (rnew_net _ _ ds ls m w hD hL hz).mono fun e w' ⟨h1,h2⟩=>⟨h2,Or.inr ⟨_,h1,hz,fun h=>absurd h hz,fun h=>absurd h hz,fun _=>rfl⟩⟩
section
variable {ds : List Dv} {ls : List Lk} {bR R MR most K : Nat} {sl : Value} {xs : List Value} {ns : List Nd} {s : Nat -> Nat -> Nat -> Nat} {W : World} {T : Tab}
theorem rr_law (h : RcF ds ls bR R MR most K sl xs ns s W) (hz : netV ds ls = 0) (hi : KInv ds ls T K) (t : Int × Int) (p : Pk) :
  Calls Tryz.prog 11 #[.pointer (some ⟨R,0,none⟩),.agg #[.int .i64 t.1,.int .i64 t.2],pkV p] W fun e w'=>e = .returned (.int .i64 (rndP ds T t p)) /\ Below W.heap.size W w':=by
 cases hp : pkOk p
 ·refine (round_bad R t.1 t.2 p.s p.d p.sp p.dp W hp).mono fun e w' ⟨h1,h2⟩=>⟨?_,h2⟩;rw [h1];unfold rndP;rw [if_neg (fun h=>by rw [hp] at h;cases h.2)]
 ·refine (round_f h t.1 t.2 p.s p.d p.sp p.dp hp).mono fun e w' ⟨v,h1,h2,h3⟩=>⟨?_,h3⟩;rw [h1,round_eq hz hi hp h2.out]
theorem rf_law (h : RcF ds ls bR R MR most K sl xs ns s W) (hz : netV ds ls = 0) (hi : KInv ds ls T K) (t : Int × Int) (sa sb sc sd : Nat) (ha : sa < 65536) (hb : sb < 65536) (hc : sc < 256) (hd : sd < 256) :
  Calls Tryz.prog 13 #[.pointer (some ⟨R,0,none⟩),.agg #[.int .i64 t.1,.int .i64 t.2],mt sa sb sc sd] W fun e w'=>e = .returned (firstV (firstP ds T t sa sb sc sd)) /\ Below W.heap.size W w':=by
 have hP : ∀ i,someR ns (atN (s i) t.1 t.2) sa sb sc sd = true ↔ ∃ b,b < 16384 /\ (ev ns (atN (s i) t.1 t.2) (envOf 14 b) && phi sa sb sc sd (envOf 14 b)) = true:=fun i=>by
  unfold someR;simp
 refine (first_ok (p:=t.1) (q:=t.2) h.rc ⟨h.hist⟩ h.lt ha hb hc hd ⟨fun i j hij hj he=>?_⟩).mono fun e w' ⟨v,h1,h2,h3⟩=>⟨?_,h3⟩
 ·obtain ⟨b,hb,e⟩:=(hP i).1 he;refine (hP j).2 ⟨b,hb,?_⟩;rw [Bool.and_eq_true] at e ⊢;refine ⟨?_,e.2⟩;rw [h.at hj];have:=e.1;rw [h.at (by omega)] at this;exact atF_up hij _ _ _ this
 ·rw [h1,first_eq hz hi sa sb sc sd (fun i _=>hP i) (fun i hi=>by rw [h.at hi]) h2.out]
theorem rc_law (h : RcF ds ls bR R MR most K sl xs ns s W) (hz : netV ds ls = 0) (hi : KInv ds ls T K) (t : Int × Int) :
  Calls Tryz.prog 15 #[.pointer (some ⟨R,0,none⟩),.agg #[.int .i64 t.1,.int .i64 t.2]] W fun e w'=>e = .returned (.int .i64 (cntP ds T t : Nat)) /\ Below W.heap.size W w':=by
 refine (count_f h t.1 t.2).mono fun e w' ⟨h1,h2⟩=>⟨?_,h2⟩;rw [h1,count_eq hz hi]
end
theorem ranges_same {H : Type} {P : Program} {k : TypeId} {R : Value -> Option (DataW H × List MemPlace)} {w w' : World} {b r n : Nat} {D : DataW H} {left : Lit -> Bool} {cnt : Nat} (h : w.ranges P k R b r n D left cnt) (hb : w'.heap[b]? = w.heap[b]?) (hr : w'.heap[r]? = w.heap[r]?) : w'.ranges P k R b r n D left cnt:=by
 obtain ⟨es,clock,since,seen,c0,h1,F,hs,hD,h2,rest⟩:=h;exact ⟨es,clock,since,seen,c0,hb.trans h1,F,hs,hD,hr.trans h2,rest⟩
theorem rowInv (v : Value) (y : DataW Unit × List MemPlace) (h : rowE.R v = some y) : ∃ c : Option Nat,v = rowV c:=by
 obtain ⟨x,h1,_⟩:=rowR_inv v y h;exact ⟨x,h1⟩
theorem firstV_ex (o : Option Nat) : ∃ (a b c d : Int) (ok : Bool),firstV o = .tuple #[pk a b c d,.bool ok]:=by
 cases o with
 | none=>exact ⟨_,_,_,_,_,rfl⟩
 | some x=>exact ⟨_,_,_,_,_,rfl⟩
theorem rsays_any (A L : Option Addr) (cap cap' : Nat) (ds : List Dv) (ls : List Lk) (m t1 t2 a b c d : Int) (sa sb sc sd : Nat) (w : World) (hD : Hid (Devs w.heap.size w (.slice A ds.length cap) ds)) (hL : Hid (Links w.heap.size w (.slice L ls.length cap') ls)) (ht : prtOk (t1,t2)) (ha : sa < 65536) (hb : sb < 65536) (hc : sc < 256) (hd : sd < 256) :
  Calls Tryz.prog 3 #[.agg #[.slice A ds.length cap,.slice L ls.length cap'],.int .i64 m,.agg #[.int .i64 t1,.int .i64 t2],pk a b c d,mt sa sb sc sd] w fun e w'=>e = .returned (.bool true) /\ Below w.heap.size w w':=by
 obtain ⟨w1,hw1⟩ : ∃ w1,w1 = (((w.alloc (.cells #[.slice A ds.length cap,.slice L ls.length cap'] 25)).alloc (.cells #[.int .i64 t1,.int .i64 t2] 27)).alloc (.cells #[.int .i64 a,.int .i64 b,.int .i64 c,.int .i64 d] 29)).alloc (.cells #[.int .u16 (sa : Int),.int .u16 (sb : Int),.int .u8 (sc : Int),.int .u8 (sd : Int)] 32):=⟨_,rfl⟩;have D1 : Below w.heap.size w w1:=by rw [hw1];exact Below.alloc' (Below.alloc' (Below.alloc' (Below.alloc' (Below.refl _ w) _) _) _) _
 have b0 : Bz w1 w.heap.size #[.slice A ds.length cap,.slice L ls.length cap'] 25:=by rw [hw1];exact (((Bz.new w _ _ _ rfl).al _).al _).al _
 have b1 : Bz w1 (w.heap.size + 1) #[.int .i64 t1,.int .i64 t2] 27:=by rw [hw1];exact ((Bz.new _ _ _ _ (by simp)).al _).al _
 have b2 : Bz w1 (w.heap.size + 1 + 1) #[.int .i64 a,.int .i64 b,.int .i64 c,.int .i64 d] 29:=by rw [hw1];exact (Bz.new _ _ _ _ (by simp)).al _
 have b3 : Bz w1 (w.heap.size + 1 + 1 + 1) #[.int .u16 (sa : Int),.int .u16 (sb : Int),.int .u8 (sc : Int),.int .u8 (sd : Int)] 32:=by rw [hw1];exact Bz.new _ _ _ _ (by simp)
 obtain ⟨V,hV⟩ : ∃ V : World -> Prop,V = fun W=>Below w1.heap.size w1 W:=⟨_,rfl⟩;have VD : Hid (∀ W,V W -> Below w.heap.size w W):=fun W h=>by rw [hV] at h;exact chain h D1
 have VB : Hid (∀ W W',V W -> Below W.heap.size W W' -> V W'):=fun W W' h k=>by rw [hV] at h ⊢;exact chain k h
 have V1 : V w1:=by rw [hV];exact Below.refl _ _
 have VC : Hid (∀ W,V W -> W.cell? ⟨w.heap.size,0,none⟩ = some (.slice A ds.length cap) /\ W.cell? ⟨w.heap.size,1,none⟩ = some (.slice L ls.length cap') /\ W.cell? ⟨w.heap.size + 1,0,none⟩ = some (.int .i64 t1) /\ W.cell? ⟨w.heap.size + 1,1,none⟩ = some (.int .i64 t2) /\ W.cell? ⟨w.heap.size + 1 + 1,0,none⟩ = some (.int .i64 a) /\ W.cell? ⟨w.heap.size + 1 + 1,1,none⟩ = some (.int .i64 b) /\ W.cell? ⟨w.heap.size + 1 + 1,2,none⟩ = some (.int .i64 c) /\ W.cell? ⟨w.heap.size + 1 + 1,3,none⟩ = some (.int .i64 d) /\ W.cell? ⟨w.heap.size + 1 + 1 + 1,0,none⟩ = some (.int .u16 (sa : Int)) /\ W.cell? ⟨w.heap.size + 1 + 1 + 1,1,none⟩ = some (.int .u16 (sb : Int)) /\ W.cell? ⟨w.heap.size + 1 + 1 + 1,2,none⟩ = some (.int .u8 (sc : Int)) /\ W.cell? ⟨w.heap.size + 1 + 1 + 1,3,none⟩ = some (.int .u8 (sd : Int)) /\ w.heap.size + 1 + 1 + 1 < W.heap.size):=fun W h=>by
  rw [hV] at h;exact ⟨below_cell h (b0.cell 0 _ rfl),below_cell h (b0.cell 1 _ rfl),below_cell h (b1.cell 0 _ rfl),below_cell h (b1.cell 1 _ rfl),below_cell h (b2.cell 0 _ rfl),below_cell h (b2.cell 1 _ rfl),below_cell h (b2.cell 2 _ rfl),below_cell h (b2.cell 3 _ rfl),below_cell h (b3.cell 0 _ rfl),below_cell h (b3.cell 1 _ rfl),below_cell h (b3.cell 2 _ rfl),below_cell h (b3.cell 3 _ rfl),Nat.lt_of_lt_of_le b3.lt h.size⟩
 have VC0 : Hid (∀ W,V W -> W.cell? ⟨w.heap.size,0,none⟩ = some (.slice A ds.length cap) /\ W.cell? ⟨w.heap.size,1,none⟩ = some (.slice L ls.length cap') /\ w.heap.size + 1 + 1 + 1 < W.heap.size):=fun W h=>by
  obtain ⟨c0,c1,c2,c3,c4,c5,c6,c7,c8,c9,ca,cb,lt1⟩:=VC.out _ h;exact ⟨c0,c1,lt1⟩
 have HDV : Hid (∀ W,V W -> Devs W.heap.size W (.slice A ds.length cap) ds /\ Links W.heap.size W (.slice L ls.length cap') ls):=fun W h=>by
  have:=VD.out W h;exact ⟨(hD.out.below this).mono this.size,(hL.out.below this).mono this.size⟩
 have NW : Hid (Calls Tryz.prog 6 #[.agg #[.slice A ds.length cap,.slice L ls.length cap'],.int .i64 m] w1 fun e w'=>V w' /\ ((∃ R : Nat,e = .returned (.tuple #[.pointer (some ⟨R,0,none⟩),.int .i64 0]) /\ Hid (netV ds ls = 0 /\ (2 <= m /\ m <= 40000) /\ ∃ (bR MR most K : Nat) (sl : Value) (xs : List Value) (ns : List Nd) (s : Nat -> Nat -> Nat -> Nat),RcF ds ls bR R MR most K sl xs ns s w')) ∨ ∃ er : Int,e = .returned (.tuple #[.pointer none,.int .i64 er]) /\ Hid (er ≠ 0 /\ (netV ds ls = 0 -> 2 <= m /\ m <= 40000 -> er = 6) /\ (netV ds ls = 0 -> ¬ (2 <= m /\ m <= 40000) -> er = 1) /\ (netV ds ls ≠ 0 -> er = netV ds ls)))) :=
  (rnew_law A L cap cap' ds ls m w1 (HDV.out _ V1).1 (HDV.out _ V1).2).mono fun e w' ⟨h1,h2⟩=>⟨VB.out _ _ V1 h1,h2⟩
 have NT : Hid (∀ W,V W -> Calls Tryz.prog 7 #[.agg #[.slice A ds.length cap,.slice L ls.length cap']] W fun e w'=>e = .returned (.int .i64 (netV ds ls)) /\ Below W.heap.size W w'):=fun W h=>rnet_any _ _ ds ls W (HDV.out _ h).1 (HDV.out _ h).2;have SP : Hid (∀ W,V W -> netV ds ls = 0 -> Calls Tryz.prog 9 #[.agg #[.slice A ds.length cap,.slice L ls.length cap']] W fun e w'=>∃ (S M : Nat) (bl : (Int × Int) -> Option Nat) (T : Tab) (k : Nat),e = .returned (.pointer (some ⟨S,0,none⟩)) /\ Hid (SpV ds ls S M bl T k w' /\ Below W.heap.size W w')):=fun W h hz=>(rspread_any A L cap cap' ds ls W hz (HDV.out _ h).1 (HDV.out _ h).2).mono fun e w' ⟨S,M,bl,T,k,h1,h2,h3⟩=>⟨S,M,bl,T,k,h1,h2,h3⟩;have IM : Hid (∀ W,Calls Tryz.prog 8 #[.int .i64 m,.int .i64 2,.int .i64 40000] W fun e w'=>e = .returned (.bool (decide (2 <= m) && decide (m <= 40000))) /\ w' = W):=fun W=>finR m 2 40000 W;clear hV b0 b1 b2 b3 D1 HDV hD hL;obtain ⟨c0,c1,c2,c3,c4,c5,c6,c7,c8,c9,ca,cb,lt1⟩:=VC.out _ V1;subst hw1;go_enter Tryz.func3,Tryz.ntmps3;go_wp2_with fail;refine NW.out.mono ?_;clear NW V1 c0 c1 c2 c3 c4 c5 c6 c7 c8 c9 ca cb lt1;rintro e w2 ⟨V2,⟨R,rfl,HR⟩ | ⟨er,rfl,HE⟩⟩
 rotate_left
 ·obtain ⟨c0,c1,lt1⟩:=VC0.out _ V2;go_wp2_with fail;refine (NT.out _ V2).mono ?_;rintro e w3 ⟨rfl,hb3⟩;have V3:=VB.out _ _ V2 hb3;have D3:=VD.out _ V3;clear NT SP VB VC VC0 VD c0 c1 hb3 V2 V3;by_cases hz : netV ds ls = 0
  ·rw [hz];by_cases hm : 2 <= m /\ m <= 40000
   ·obtain rfl:=HE.out.2.1 hz hm;have IM' : Hid (∀ W,Calls Tryz.prog 8 #[.int .i64 m,.int .i64 2,.int .i64 40000] W fun e w'=>e = .returned (.bool true) /\ w' = W):=fun W=>by
     have:=IM.out W;rw [decide_eq_true hm.1,decide_eq_true hm.2] at this;exact this
    clear IM HE hm hz;go_wp2_with fail;refine (IM'.out _).mono ?_;rintro e w4 ⟨rfl,rfl⟩;go_wp2_with fail;go_ret;exact ⟨rfl,D3⟩
   ·obtain rfl:=HE.out.2.2.1 hz hm;have IM' : Hid (∀ W,Calls Tryz.prog 8 #[.int .i64 m,.int .i64 2,.int .i64 40000] W fun e w'=>e = .returned (.bool false) /\ w' = W):=fun W=>by
     have:=IM.out W;rw [show (decide (2 <= m) && decide (m <= 40000)) = false by
      rw [Bool.and_eq_false_iff,decide_eq_false_iff_not,decide_eq_false_iff_not];omega] at this
     exact this
    clear IM HE hm hz;go_wp2_with fail;refine (IM'.out _).mono ?_;rintro e w4 ⟨rfl,rfl⟩;go_wp2_with fail;go_ret;exact ⟨rfl,D3⟩
  ·obtain rfl:=HE.out.2.2.2 hz;have z1 : (netV ds ls == 0) = false:=by simpa using hz
   have z2 : (netV ds ls != 0) = true:=by simpa using hz
   clear IM HE;generalize netV ds ls = z at *;go_wp2_with fail;go_ret;exact ⟨rfl,D3⟩
 ·obtain ⟨c0,c1,lt1⟩:=VC0.out _ V2;go_wp2_with fail;refine (NT.out _ V2).mono ?_;rintro e w3 ⟨rfl,hb3⟩;have V3:=VB.out _ _ V2 hb3;obtain ⟨hz,hm,bR,MR,most,K,sl,xs,ns,s,RF⟩:=HR.out;have RF3:=RF.below hb3;obtain ⟨c0,c1,lt1⟩:=VC0.out _ V3;have IM' : Hid (∀ W,Calls Tryz.prog 8 #[.int .i64 m,.int .i64 2,.int .i64 40000] W fun e w'=>e = .returned (.bool true) /\ w' = W):=fun W=>by
   have:=IM.out W;rw [decide_eq_true hm.1,decide_eq_true hm.2] at this;exact this
  have SP3 : Hid (Calls Tryz.prog 9 #[.agg #[.slice A ds.length cap,.slice L ls.length cap']] w3 fun e w'=>∃ (S M : Nat) (bl : (Int × Int) -> Option Nat) (T : Tab) (k : Nat),e = .returned (.pointer (some ⟨S,0,none⟩)) /\ Hid (SpV ds ls S M bl T k w' /\ Below w3.heap.size w3 w')):=SP.out _ V3 hz;rw [hz];clear NT SP V2 IM HR RF hm hb3;go_wp2_with fail;refine (IM'.out _).mono ?_;rintro e w4 ⟨rfl,rfl⟩;go_wp2_with fail;refine SP3.out.mono ?_;rintro e w5 ⟨S,M,bl,T,k,rfl,H5⟩;obtain ⟨hS,hb5⟩:=H5.out;have RF5:=RF3.below hb5;have V5:=VB.out _ _ V3 hb5;obtain rfl : K = k:=rounds_same hz hS.inv hS.fix RF5.up RF5.fix;obtain ⟨X,hX⟩ : ∃ X : World -> Prop,X = fun W=>V W /\ RcF ds ls bR R MR most K sl xs ns s W /\ SpV ds ls S M bl T K W:=⟨_,rfl⟩;have X5 : X w5:=by rw [hX];exact ⟨V5,RF5,hS⟩
  have hi:=hS.inv;have XB : Hid (∀ W W',X W -> Below W.heap.size W W' -> X W'):=fun W W' h k=>by
   rw [hX] at h ⊢;exact ⟨VB.out _ _ h.1 k,h.2.1.below k,h.2.2.grow k⟩
  have XD : Hid (∀ W,X W -> Below w.heap.size w W):=fun W h=>by rw [hX] at h;exact VD.out _ h.1
  have XC : Hid (∀ W,X W -> W.cell? ⟨S,0,none⟩ = some (.int .i64 (K : Int)) /\ W.cell? ⟨w.heap.size + 1,0,none⟩ = some (.int .i64 t1) /\ W.cell? ⟨w.heap.size + 1,1,none⟩ = some (.int .i64 t2) /\ W.cell? ⟨w.heap.size + 1 + 1,0,none⟩ = some (.int .i64 a) /\ W.cell? ⟨w.heap.size + 1 + 1,1,none⟩ = some (.int .i64 b) /\ W.cell? ⟨w.heap.size + 1 + 1,2,none⟩ = some (.int .i64 c) /\ W.cell? ⟨w.heap.size + 1 + 1,3,none⟩ = some (.int .i64 d)):=fun W h=>by
   rw [hX] at h;obtain ⟨c0,c1,c2,c3,c4,c5,c6,c7,c8,c9,ca,cb,lt1⟩:=VC.out _ h.1;exact ⟨h.2.2.S.two.1,c2,c3,c4,c5,c6,c7⟩
  have XM : Hid (∀ W,X W -> W.cell? ⟨S,1,none⟩ = some (.map (some M)) /\ W.cell? ⟨w.heap.size + 1,0,none⟩ = some (.int .i64 t1) /\ W.cell? ⟨w.heap.size + 1,1,none⟩ = some (.int .i64 t2) /\ W.cell? ⟨w.heap.size + 1 + 1 + 1,0,none⟩ = some (.int .u16 (sa : Int)) /\ W.cell? ⟨w.heap.size + 1 + 1 + 1,1,none⟩ = some (.int .u16 (sb : Int)) /\ W.cell? ⟨w.heap.size + 1 + 1 + 1,2,none⟩ = some (.int .u8 (sc : Int)) /\ W.cell? ⟨w.heap.size + 1 + 1 + 1,3,none⟩ = some (.int .u8 (sd : Int)) /\ MapAt plcE rowE W M 40 (fun t=>(bl t).map some) /\ M < W.heap.size):=fun W h=>by
   rw [hX] at h;obtain ⟨c0,c1,c2,c3,c4,c5,c6,c7,c8,c9,ca,cb,lt1⟩:=VC.out _ h.1;exact ⟨h.2.2.S.two.2,c2,c3,c8,c9,ca,cb,h.2.2.map,h.2.2.map.lt⟩
  have CR : Hid (∀ W,X W -> Calls Tryz.prog 10 #[.pointer (some ⟨R,0,none⟩)] W fun e w'=>e = .returned (.int .i64 (K : Int)) /\ w' = W):=fun W h=>by
   rw [hX] at h;exact rounds_f h.2.1
  have C1 : Hid (∀ W,X W -> Calls Tryz.prog 11 #[.pointer (some ⟨R,0,none⟩),.agg #[.int .i64 t1,.int .i64 t2],pk a b c d] W fun e w'=>e = .returned (.int .i64 (rndP ds T (t1,t2) ⟨a,b,c,d⟩)) /\ X w'):=fun W h=>by
   have h0:=h;rw [hX] at h;exact (rr_law h.2.1 hz hi (t1,t2) ⟨a,b,c,d⟩).mono fun e w' ⟨h1,h2⟩=>⟨h1,XB.out _ _ h0 h2⟩
  have C2 : Hid (∀ W,X W -> Calls Tryz.prog 12 #[.pointer (some ⟨S,0,none⟩),.agg #[.int .i64 t1,.int .i64 t2],pk a b c d] W fun e w'=>e = .returned (.int .i64 (rndP ds T (t1,t2) ⟨a,b,c,d⟩)) /\ X w'):=fun W h=>by
   have h0:=h;rw [hX] at h;exact (rround_any h.2.2 ht ⟨a,b,c,d⟩).mono fun e w' ⟨h1,h2⟩=>⟨h1,XB.out _ _ h0 h2⟩
  obtain ⟨fa,fb,fc,fd,fok,hF⟩:=firstV_ex (firstP ds T (t1,t2) sa sb sc sd);have C3 : Hid (∀ W,X W -> Calls Tryz.prog 13 #[.pointer (some ⟨R,0,none⟩),.agg #[.int .i64 t1,.int .i64 t2],mt sa sb sc sd] W fun e w'=>e = .returned (.tuple #[pk fa fb fc fd,.bool fok]) /\ X w'):=fun W h=>by
   have h0:=h;rw [hX] at h;exact (rf_law h.2.1 hz hi (t1,t2) sa sb sc sd ha hb hc hd).mono fun e w' ⟨h1,h2⟩=>⟨by rw [h1,hF],XB.out _ _ h0 h2⟩
  have C4 : Hid (∀ W,X W -> Calls Tryz.prog 14 #[.pointer (some ⟨S,0,none⟩),.agg #[.int .i64 t1,.int .i64 t2],mt sa sb sc sd] W fun e w'=>e = .returned (.tuple #[pk fa fb fc fd,.bool fok]) /\ Below W.heap.size W w'):=fun W h=>by
   rw [hX] at h;exact (sfirst_any h.2.2 ht sa sb sc sd ha hb hc hd).mono fun e w' ⟨h1,h2⟩=>⟨by rw [h1,hF],h2⟩
  have C5 : Hid (∀ (x : Int × Int) W,X W -> Calls Tryz.prog 15 #[.pointer (some ⟨R,0,none⟩),.agg #[.int .i64 x.1,.int .i64 x.2]] W fun e w'=>e = .returned (.int .i64 (cntP ds T x : Nat)) /\ Below W.heap.size W w'):=fun x W h=>by
   rw [hX] at h;exact rc_law h.2.1 hz hi x
  have C6 : Hid (∀ (x : Int × Int) W,prtOk x -> X W -> Calls Tryz.prog 16 #[.pointer (some ⟨S,0,none⟩),.agg #[.int .i64 x.1,.int .i64 x.2]] W fun e w'=>e = .returned (.int .i64 (cntP ds T x : Nat)) /\ Below W.heap.size W w'):=fun x W hx h=>by
   rw [hX] at h;exact scount_any h.2.2 hx
  clear SP3 H5 RF3 IM' V3 c0 c1 hb5 hX hS RF5 V5 VB VC VC0 VD hF hi hz ha hb hc hd lt1;generalize rndP ds T (t1,t2) ⟨a,b,c,d⟩ = rv at *;generalize cntP ds T = cv at *;have X5:=XB.out _ _ X5 (Below.refl _ _).drew;obtain ⟨x0,x1,x2,x3,x4,x5,x6⟩:=XC.out _ X5;go_wp2_with fail;go_region_held3 (fun W=>W.cell? ⟨S,0,none⟩ = some (.int .i64 (K : Int)) /\ W.cell? ⟨w.heap.size + 1,0,none⟩ = some (.int .i64 t1) /\ W.cell? ⟨w.heap.size + 1,1,none⟩ = some (.int .i64 t2) /\ W.cell? ⟨w.heap.size + 1 + 1,0,none⟩ = some (.int .i64 a) /\ W.cell? ⟨w.heap.size + 1 + 1,1,none⟩ = some (.int .i64 b) /\ W.cell? ⟨w.heap.size + 1 + 1,2,none⟩ = some (.int .i64 c) /\ W.cell? ⟨w.heap.size + 1 + 1,3,none⟩ = some (.int .i64 d)) (exact XC.out _ ‹_›)
   ((first
     | (go_at_call 10;refine (CR.out _ ‹_›).mono ?_;rintro e w' ⟨rfl,rfl⟩)
     | (go_at_call 11;refine (C1.out _ ‹_›).mono ?_;rintro e w6 ⟨rfl,V6⟩)
     | (go_at_call 12;refine (C2.out _ ‹_›).mono ?_;rintro e w7 ⟨rfl,V7⟩)))
  clear x0 x1 x2 x3 x4 x5 x6 X5 V6 CR C1 C2 XC;obtain ⟨_,x1,x2,y0,y1,y2,y3,_,_⟩:=XM.out _ V7;go_wp2_with fail;refine (C3.out _ V7).mono ?_;rintro e w8 ⟨rfl,V8⟩;clear x1 x2 y0 y1 y2 y3 V7 C3;have V9:=XB.out _ _ V8 (Below.alN (Below.refl _ _) (.cells #[.int .i64 fa,.int .i64 fb,.int .i64 fc,.int .i64 fd] 29));obtain ⟨_,x1,x2,y0,y1,y2,y3,_,_⟩:=XM.out _ V9;go_wp2_with fail;refine (C4.out _ V9).mono ?_;rintro e w10 ⟨rfl,hb10⟩;have Z8 : Bz (w8.alloc (.cells #[.int .i64 fa,.int .i64 fb,.int .i64 fc,.int .i64 fd] 29)) w8.heap.size #[.int .i64 fa,.int .i64 fb,.int .i64 fc,.int .i64 fd] 29:=Bz.new _ _ _ _ rfl;have Z10:=Z8.keepR hb10;obtain ⟨⟨q0,q1,q2,q3⟩,_,l10⟩:=box_fourQ Z10;have V10:=XB.out _ _ V9 hb10;have V11:=XB.out _ _ V10 (Below.alN (Below.refl _ _) (.cells #[.int .i64 fa,.int .i64 fb,.int .i64 fc,.int .i64 fd] 29));obtain ⟨m1,_,_,_,_,_,_,MA,lM⟩:=XM.out _ V11;clear x1 x2 y0 y1 y2 y3 C4 Z8 Z10 V8 V9 V10 hb10;obtain ⟨D,hown,_⟩:=MA;obtain ⟨w11,hw11⟩ : ∃ w11,w11 = w10.alloc (.cells #[.int .i64 fa,.int .i64 fb,.int .i64 fc,.int .i64 fd] 29):=⟨_,rfl⟩;obtain ⟨Y,hY⟩ : ∃ Y : World -> Prop,Y = fun W=>Below w11.heap.size w11 W:=⟨_,rfl⟩;have V11' : X w11:=by rw [hw11];exact V11
  have YX : Hid (∀ W,Y W -> X W):=fun W h=>by rw [hY] at h;exact XB.out _ _ V11' h
  have YB : Hid (∀ W W',Y W -> Below W.heap.size W W' -> Y W'):=fun W W' h k=>by rw [hY] at h ⊢;exact chain k h
  have YG : Hid (∀ W W',Y W -> W.grownBy W' (some w11.heap.size) -> Y W'):=fun W W' h k=>by
   rw [hY] at h ⊢;exact h.grown k h.size (fun j e=>by cases e;omega)
  have Y0 : Hid (∀ W,w11.grownBy W .none -> Y W):=fun W k=>by
   rw [hY];exact (Below.refl _ _).grown k (Nat.le_refl _) (fun j e=>by cases e)
  rw [hw11] at Y0 YG;clear hY V11' hw11 V11 XB;clear w11;go_wp2_with (first
   | (at_range;refine wpList_range_own _ rfl _ 42 rfl 27 50 lawPlc uMapP _ M 40 D rfl hown ?_;intro w0 hrg0 hg0 hs0)
   | fail)
  have V0:=Y0.out _ hg0;simp only [World.size_alloc] at hrg0 ⊢;clear Y0 hg0 hown q0 q1 q2 q3;go_frame;go_loopw [10,19] (fun _ _ wr=>∃ (left : Lit -> Bool) (cnt : Nat),wr.ranges Tryz.prog 27 rowE.R M (w10.heap.size + 1) 40 D left cnt /\ Y wr) (fun _ _ wr=>wr.rangeLeft M (w10.heap.size + 1))
  case atStart=>exact ⟨_,_,hrg0,V0⟩
  case round =>
   clear hrg0 V0;obtain ⟨left,cnt,hrg,Y1⟩:=hrel;go_step;go_step
   (first | at_next | (go_step;at_next) | (go_step;go_step;at_next))
   refine wpList_next_ranges (α:={t : Int × Int // prtOk t}) (β:=Option Nat) _ rfl _ rfl 27 lawPlc rowE.R (fun x=>prtV x.1) rowV invPlc rowInv M (w10.heap.size + 1) 40 _ _ _ rfl hrg ?_ ?_
   ·intro _ _;have YC : Hid (∀ W,Y W -> W.cell? ⟨w.heap.size + 1,0,none⟩ = some (.int .i64 t1) /\ W.cell? ⟨w.heap.size + 1,1,none⟩ = some (.int .i64 t2)):=fun W h=>by
     obtain ⟨_,x1,x2,_⟩:=XM.out _ (YX.out _ h);exact ⟨x1,x2⟩
    have K5 : Hid (∀ W,Y W -> Calls Tryz.prog 15 #[.pointer (some ⟨R,0,none⟩),.agg #[.int .i64 t1,.int .i64 t2]] W fun e w'=>e = .returned (.int .i64 (cv (t1,t2) : Nat)) /\ Y w'):=fun W h=>(C5.out (t1,t2) W (YX.out _ h)).mono fun e w' ⟨h1,h2⟩=>⟨h1,YB.out _ _ h h2⟩;have K6 : Hid (∀ W,Y W -> Calls Tryz.prog 16 #[.pointer (some ⟨S,0,none⟩),.agg #[.int .i64 t1,.int .i64 t2]] W fun e w'=>e = .returned (.int .i64 (cv (t1,t2) : Nat)) /\ Y w'):=fun W h=>(C6.out (t1,t2) W ht (YX.out _ h)).mono fun e w' ⟨h1,h2⟩=>⟨h1,YB.out _ _ h h2⟩;have YD : Hid (∀ W,Y W -> Below w.heap.size w W):=fun W h=>XD.out _ (YX.out _ h);have Y2:=YB.out _ _ Y1 (Below.refl _ _).drew;obtain ⟨x1,x2⟩:=YC.out _ Y2;generalize cv (t1,t2) = cc at *;clear C5 C6 YX YB YG XM XD hrg Y1;go_wp2_with fail;go_region_held3 (fun W=>W.cell? ⟨w.heap.size + 1,0,none⟩ = some (.int .i64 t1) /\ W.cell? ⟨w.heap.size + 1,1,none⟩ = some (.int .i64 t2)) (exact YC.out _ ‹_›)
     ((first
       | (go_at_call 15;refine (K5.out _ ‹_›).mono ?_;rintro e w6 ⟨rfl,V6⟩)
       | (go_at_call 16;refine (K6.out _ ‹_›).mono ?_;rintro e w7 ⟨rfl,V7⟩)))
    all_goals
     go_wp2_with fail;go_ret;exact ⟨by simp,YD.out _ ‹_›⟩
   ·intro x v kl y w1 cnt1 hkey hlx hval hat hrg1 hlt hg1 hs1 hen;obtain ⟨⟨p1,p2⟩,hp⟩:=x;have Y2:=YG.out _ _ Y1 (by simp only [World.size_alloc];exact hg1);obtain ⟨Z,hZ⟩ : ∃ Z : World -> Prop,Z = fun W=>Y W /\ Bz W w1.heap.size #[.int .i64 p1,.int .i64 p2] 27 /\ W.ranges Tryz.prog 27 rowE.R M (w10.heap.size + 1) 40 D (fun z=>left z && !z.sameKey kl) cnt1:=⟨_,rfl⟩;have ZB : Hid (∀ W W',Z W -> Below W.heap.size W W' -> Z W'):=fun W W' h k=>by
     rw [hZ] at h ⊢;exact ⟨YB.out _ _ h.1 k,h.2.1.keepR k,ranges_same h.2.2 (k.block _ h.2.2.owns.lt) (k.block _ h.2.2.lt)⟩
    have ZC : Hid (∀ W,Z W -> W.cell? ⟨w1.heap.size,0,none⟩ = some (.int .i64 p1) /\ W.cell? ⟨w1.heap.size,1,none⟩ = some (.int .i64 p2)):=fun W h=>by
     rw [hZ] at h;exact ⟨h.2.1.cell 0 _ rfl,h.2.1.cell 1 _ rfl⟩
    have K5 : Hid (∀ W,Z W -> Calls Tryz.prog 15 #[.pointer (some ⟨R,0,none⟩),.agg #[.int .i64 p1,.int .i64 p2]] W fun e w'=>e = .returned (.int .i64 (cv (p1,p2) : Nat)) /\ Z w'):=fun W h=>by
     have h0:=h;rw [hZ] at h;exact (C5.out (p1,p2) W (YX.out _ h.1)).mono fun e w' ⟨h1,h2⟩=>⟨h1,ZB.out _ _ h0 h2⟩
    have K6 : Hid (∀ W,Z W -> Calls Tryz.prog 16 #[.pointer (some ⟨S,0,none⟩),.agg #[.int .i64 p1,.int .i64 p2]] W fun e w'=>e = .returned (.int .i64 (cv (p1,p2) : Nat)) /\ Z w'):=fun W h=>by
     have h0:=h;rw [hZ] at h;exact (C6.out (p1,p2) W hp (YX.out _ h.1)).mono fun e w' ⟨h1,h2⟩=>⟨h1,ZB.out _ _ h0 h2⟩
    have Z2 : Z (w1.alloc (.cells #[.int .i64 p1,.int .i64 p2] 27)):=by
     rw [hZ];exact ⟨YB.out _ _ Y2 (Below.alN (Below.refl _ _) _),Bz.new _ _ _ _ rfl,hrg1.alloc _⟩
    have Z3:=ZB.out _ _ Z2 (Below.refl _ _).drew;have FIN : Hid (∀ W,Z W -> (∃ (left : Lit -> Bool) (cnt : Nat),W.ranges Tryz.prog 27 rowE.R M (w10.heap.size + 1) 40 D left cnt /\ Y W) /\ W.rangeLeft M (w10.heap.size + 1) < wr.rangeLeft M (w10.heap.size + 1)):=fun W h=>by
     rw [hZ] at h;refine ⟨⟨_,_,h.2.2,h.1⟩,?_⟩;rw [h.2.2.left_eq,hrg.left_eq];exact hlt
    obtain ⟨x1,x2⟩:=ZC.out _ Z3;dsimp only at hen ⊢;generalize rowV v = vv at *;generalize cv (p1,p2) = cc at *;clear C5 C6 YX YB YG XM XD hrg Y1 Y2 hZ hrg1 hlt hat hval hkey hlx hg1 hs1 Z2;go_wp2_with fail;go_region_held3 (fun W=>W.cell? ⟨w1.heap.size,0,none⟩ = some (.int .i64 p1) /\ W.cell? ⟨w1.heap.size,1,none⟩ = some (.int .i64 p2)) (exact ZC.out _ ‹_›)
     ((first
       | (go_at_call 15;refine (K5.out _ ‹_›).mono ?_;rintro e w6 ⟨rfl,V6⟩)
       | (go_at_call 16;refine (K6.out _ ‹_›).mono ?_;rintro e w7 ⟨rfl,V7⟩)))
    all_goals
     go_wp2_with fail;go_roundw
     case rel=>exact (FIN.out _ ‹_›).1
     case measure=>exact (FIN.out _ ‹_›).2
end Go.Proofs.YtppbfikimalojaaGreat
