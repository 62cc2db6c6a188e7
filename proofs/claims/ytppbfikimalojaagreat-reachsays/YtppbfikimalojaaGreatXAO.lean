/-
  XAO.
-/
import Derived.Test.YtppbfikimalojaaGreatXLy
import Derived.Test.YtppbfikimalojaaGreatXAI
import Derived.Test.YtppbfikimalojaaGreatXAN
import Derived.Test.YtppbfikimalojaaGreatXAM
set_option maxHeartbeats 8000000
set_option maxRecDepth 100000
namespace Go.Proofs.YtppbfikimalojaaGreat
open Go.RowKit
theorem finR (n lo hi : Int) (w : World) : Calls Tryz.prog 8 #[.int .i64 n,.int .i64 lo,.int .i64 hi] w fun e w'=>e = .returned (.bool (decide (lo <= n) && decide (n <= hi))) /\ w' = w:=by
 by_cases h : lo <= n
 ·go_enter Tryz.func8,Tryz.ntmps8;go_wp2_with fail;go_ret;exact ⟨by simp [h],rfl⟩
 ·have h' : decide (lo <= n) = false:=by simp;omega
  go_enter Tryz.func8,Tryz.ntmps8;go_wp2_with fail;go_ret;exact ⟨by simp,rfl⟩
def topV (n : Int) (b : Int) : Int:=n / 2 ^ bh b * 2 ^ bh b
theorem top_0 (n : Int) (w : World) (h0 : 0 <= n) (h1 : n < 16) : Calls Tryz.prog 134 #[.int .i64 n,.int .i64 4] w fun e w'=>e = .returned (.int .i64 (topV n 4)) /\ w' = w:=by
 have hw2 : IntKind.i64.wrap n = n:=IntWalk.i64_in _ (by omega);have hw : wrap64 n = n:=by rw [<- IntWalk.i64_left];exact hw2
 have E : Hid (topV n 4 = n):=by show n / 1 * 1 = n;omega
 clear h0 h1;go_enter Tryz.func134,Tryz.ntmps134;go_wp2_with fail;go_ret;refine ⟨?_,rfl⟩;rw [E.out];first | rfl | (simp;done) | (simp;rw [hw]) | (simp;rw [hw2])
theorem top_1 (n : Int) (w : World) (h0 : 0 <= n) (h1 : n < 16) : Calls Tryz.prog 134 #[.int .i64 n,.int .i64 3] w fun e w'=>e = .returned (.int .i64 (topV n 3)) /\ w' = w:=by
 have hw : wrap64 (n / 2 * 2) = n / 2 * 2:=by rw [<- IntWalk.i64_left];exact IntWalk.i64_in _ (by omega)
 have hw2 : IntKind.i64.wrap (n / 2 * 2) = n / 2 * 2:=IntWalk.i64_in _ (by omega);have E : Hid (topV n 3 = n / 2 * 2):=rfl;have F : Hid (0 <= n /\ n < 16):=⟨h0,h1⟩;clear h0 h1;go_enter Tryz.func134,Tryz.ntmps134;go_wp2_with fail;go_ret;refine ⟨?_,rfl⟩;rw [E.out];first | rfl | (simp;done) | (simp;rw [hw]) | (simp;have:=F.out;rw [<- IntWalk.i64_left];exact (IntWalk.i64_in _ (by omega)).symm)
theorem top_2 (n : Int) (w : World) (h0 : 0 <= n) (h1 : n < 16) : Calls Tryz.prog 134 #[.int .i64 n,.int .i64 2] w fun e w'=>e = .returned (.int .i64 (topV n 2)) /\ w' = w:=by
 have hw : wrap64 (n / 4 * 4) = n / 4 * 4:=by rw [<- IntWalk.i64_left];exact IntWalk.i64_in _ (by omega)
 have hw2 : IntKind.i64.wrap (n / 4 * 4) = n / 4 * 4:=IntWalk.i64_in _ (by omega);have E : Hid (topV n 2 = n / 4 * 4):=rfl;have F : Hid (0 <= n /\ n < 16):=⟨h0,h1⟩;clear h0 h1;go_enter Tryz.func134,Tryz.ntmps134;go_wp2_with fail;go_ret;refine ⟨?_,rfl⟩;rw [E.out];first | rfl | (simp;done) | (simp;rw [hw]) | (simp;have:=F.out;rw [<- IntWalk.i64_left];exact (IntWalk.i64_in _ (by omega)).symm)
theorem top_3 (n : Int) (w : World) (h0 : 0 <= n) (h1 : n < 16) : Calls Tryz.prog 134 #[.int .i64 n,.int .i64 1] w fun e w'=>e = .returned (.int .i64 (topV n 1)) /\ w' = w:=by
 have hw : wrap64 (n / 8 * 8) = n / 8 * 8:=by rw [<- IntWalk.i64_left];exact IntWalk.i64_in _ (by omega)
 have hw2 : IntKind.i64.wrap (n / 8 * 8) = n / 8 * 8:=IntWalk.i64_in _ (by omega);have E : Hid (topV n 1 = n / 8 * 8):=rfl;have F : Hid (0 <= n /\ n < 16):=⟨h0,h1⟩;clear h0 h1;go_enter Tryz.func134,Tryz.ntmps134;go_wp2_with fail;go_ret;refine ⟨?_,rfl⟩;rw [E.out];first | rfl | (simp;done) | (simp;rw [hw]) | (simp;have:=F.out;rw [<- IntWalk.i64_left];exact (IntWalk.i64_in _ (by omega)).symm)
theorem top_4 (n : Int) (w : World) (h0 : 0 <= n) (h1 : n < 16) : Calls Tryz.prog 134 #[.int .i64 n,.int .i64 0] w fun e w'=>e = .returned (.int .i64 (topV n 0)) /\ w' = w:=by
 have hw : wrap64 (n / 16 * 16) = n / 16 * 16:=by rw [<- IntWalk.i64_left];exact IntWalk.i64_in _ (by omega)
 have hw2 : IntKind.i64.wrap (n / 16 * 16) = n / 16 * 16:=IntWalk.i64_in _ (by omega);have E : Hid (topV n 0 = n / 16 * 16):=rfl;have F : Hid (0 <= n /\ n < 16):=⟨h0,h1⟩;clear h0 h1;go_enter Tryz.func134,Tryz.ntmps134;go_wp2_with fail;go_ret;refine ⟨?_,rfl⟩;rw [E.out];first | rfl | (simp;done) | (simp;rw [hw]) | (simp;have:=F.out;rw [<- IntWalk.i64_left];exact (IntWalk.i64_in _ (by omega)).symm)
theorem top_any (n b : Int) (w : World) (h0 : 0 <= n) (h1 : n < 16) (h2 : 0 <= b) (h3 : b <= 4) : Calls Tryz.prog 134 #[.int .i64 n,.int .i64 b] w fun e w'=>e = .returned (.int .i64 (topV n b)) /\ w' = w:=by
 have hb : b = 0 ∨ b = 1 ∨ b = 2 ∨ b = 3 ∨ b = 4:=by omega
 rcases hb with rfl | rfl | rfl | rfl | rfl
 ·exact top_4 n w h0 h1
 ·exact top_3 n w h0 h1
 ·exact top_2 n w h0 h1
 ·exact top_1 n w h0 h1
 ·exact top_0 n w h0 h1
theorem top_same (v b : Int) : (topV v b == v) = decide (v % 2 ^ bh b = 0):=by
 have h:=Int.mul_ediv_add_emod v (2 ^ bh b);unfold topV;rw [Bool.eq_iff_iff,Int.mul_comm];generalize (2 : Int) ^ bh b = m at *;simp;omega
theorem top_takes {r : Rt} {d : Int} (hr : isR r = true) : (topV d r.b == r.v) = takesB r d:=by
 have h:=Int.mul_ediv_add_emod r.v (2 ^ bh r.b);have h2:=(isR_val hr).2.2;have hp : (0 : Int) < 2 ^ bh r.b:=Int.pow_pos (by omega);unfold topV takesB;rw [Bool.eq_iff_iff,Int.mul_comm];generalize (2 : Int) ^ bh r.b = m at *;simp;rw [h2,Int.add_zero] at h;constructor
 ·intro e;rw [<- h] at e;exact Int.eq_of_mul_eq_mul_left (by omega) e
 ·intro e;rw [e,h]
theorem right_case (v b p t : Int) (w : World) (x0 x1 x3 : Bool)
  (h0 : Hid (∀ w,Calls Tryz.prog 8 #[.int .i64 b,.int .i64 0,.int .i64 4] w fun e w'=>e = .returned (.bool x0) /\ w' = w))
  (h1 : Hid (∀ w,Calls Tryz.prog 8 #[.int .i64 v,.int .i64 0,.int .i64 15] w fun e w'=>e = .returned (.bool x1) /\ w' = w))
  (h2 : Hid ((x0 && x1) = true -> ∀ w,Calls Tryz.prog 134 #[.int .i64 v,.int .i64 b] w fun e w'=>e = .returned (.int .i64 t) /\ w' = w))
  (h3 : Hid (∀ w,Calls Tryz.prog 8 #[.int .i64 p,.int .i64 0,.int .i64 3] w fun e w'=>e = .returned (.bool x3) /\ w' = w)) :
  Calls Tryz.prog 133 #[rtw v b p] w fun e w'=>e = .returned (.bool (x0 && x1 && (t == v) && x3)) /\ Below w.heap.size w w':=by
 have D0:=Below.al (Below.refl w.heap.size w) (.cells #[.int .i64 v,.int .i64 b,.int .i64 p] 210);cases x0
 ·go_enter Tryz.func133,Tryz.ntmps133;go_wp2_with fail
  go_quiet ((go_at_call_of 8 (Value.int .i64 b);exact Calls.quiet_of_same (h0.out _)))
  go_wp2_with fail;go_ret;exact ⟨by simp,belowN D0 _⟩
 cases x1
 ·go_enter Tryz.func133,Tryz.ntmps133;go_wp2_with fail
  go_quiet ((first | (go_at_call_of 8 (Value.int .i64 b);exact Calls.quiet_of_same (h0.out _)) | (go_at_call_of 8 (Value.int .i64 v);exact Calls.quiet_of_same (h1.out _))))
  go_wp2_with fail;go_ret;exact ⟨by simp,belowN D0 _⟩
 have H2 : Hid (∀ w,Calls Tryz.prog 134 #[.int .i64 v,.int .i64 b] w fun e w'=>e = .returned (.int .i64 t) /\ w' = w):=h2.out rfl;clear h2;cases ht : (t == v)
 ·go_enter Tryz.func133,Tryz.ntmps133;go_wp2_with fail
  go_quiet ((first | (go_at_call_of 8 (Value.int .i64 b);exact Calls.quiet_of_same (h0.out _)) | (go_at_call_of 8 (Value.int .i64 v);exact Calls.quiet_of_same (h1.out _)) | (go_at_call 134;exact Calls.quiet_of_same (H2.out _))))
  go_wp2_with fail;go_ret;exact ⟨by simp,belowN D0 _⟩
 ·go_enter Tryz.func133,Tryz.ntmps133;go_wp2_with fail
  go_quiet ((first | (go_at_call_of 8 (Value.int .i64 b);exact Calls.quiet_of_same (h0.out _)) | (go_at_call_of 8 (Value.int .i64 v);exact Calls.quiet_of_same (h1.out _)) | (go_at_call_of 8 (Value.int .i64 p);exact Calls.quiet_of_same (h3.out _)) | (go_at_call 134;exact Calls.quiet_of_same (H2.out _))))
  go_wp2_with fail;go_ret;exact ⟨by simp,belowN D0 _⟩
theorem rright_any (r : Rt) (w : World) : Calls Tryz.prog 133 #[rtw r.v r.b r.p] w fun e w'=>e = .returned (.bool (isR r)) /\ Below w.heap.size w w':=by
 obtain ⟨v,b,p⟩:=r;have e : isR ⟨v,b,p⟩ = ((decide (0 <= b) && decide (b <= 4)) && (decide (0 <= v) && decide (v <= 15)) && (topV v b == v) && (decide (0 <= p) && decide (p <= 3))):=by
  rw [top_same,show decide (v <= 15) = decide (v < 16) by rw [decide_eq_decide];omega,show decide (p <= 3) = decide (p < 4) by rw [decide_eq_decide];omega];simp only [isR,Bool.and_assoc]
 rw [e];refine right_case v b p (topV v b) w _ _ _ (fun w=>finR b 0 4 w) (fun w=>finR v 0 15 w) (fun h w=>?_) (fun w=>finR p 0 3 w);simp only [Bool.and_eq_true,decide_eq_true_eq] at h;exact top_any v b w h.2.1 (by omega) h.1.1 h.1.2
def pB (d : Int) (n : Nat) (r : Rt) : Bool:=isR r && (r.b == (n : Int)) && takesB r d
def rout (l : List Rt) (d : Int) : Nat -> Option Rt
 | 0=>none
 | n + 1=>(l.find? (pB d n)).or (rout l d n)
def rp : Option Rt -> Int
 | some r=>r.p
 | none=>0
theorem find_take {xs : List Rt} {k : Nat} {r : Rt} {q : Rt -> Bool} (h : xs[k]? = some r) : (xs.take (k + 1)).find? q = ((xs.take k).find? q).or (if q r then some r else none):=by
 obtain ⟨hk,e⟩:=List.getElem?_eq_some_iff.1 h;rw [List.take_succ_eq_append_getElem hk,e,List.find?_append]
 congr 1
 simp only [List.find?_cons,List.find?_nil];cases q r <;> simp
theorem find_here {xs : List Rt} {k : Nat} {r : Rt} {q : Rt -> Bool} (h : xs[k]? = some r) (h0 : (xs.take k).find? q = none) (hq : q r = true) : xs.find? q = some r:=by
 have e:=find_take (q:=q) h;rw [h0,hq] at e;simp only [if_true,Option.none_or] at e;rw [<- List.take_append_drop (k + 1) xs,List.find?_append,e];rfl
theorem best_spec (d : Int) (l : List Rt) : ((bestOf l d).1 = -1 /\ ∀ r ∈ l,(isR r && takesB r d) = false) ∨ (∃ n : Nat,n <= 4 /\ (bestOf l d).1 = (n : Int) /\ (∃ r,l.find? (pB d n) = some r /\ r.p = (bestOf l d).2) /\ ∀ r ∈ l,(isR r && takesB r d) = true -> r.b <= (n : Int)):=by
 suffices H : ∀ m : List Rt,((bestOf m.reverse d).1 = -1 /\ ∀ r ∈ m.reverse,(isR r && takesB r d) = false) ∨ (∃ n : Nat,n <= 4 /\ (bestOf m.reverse d).1 = (n : Int) /\ (∃ r,m.reverse.find? (pB d n) = some r /\ r.p = (bestOf m.reverse d).2) /\ ∀ r ∈ m.reverse,(isR r && takesB r d) = true -> r.b <= (n : Int)) by
  have:=H l.reverse;rw [List.reverse_reverse] at this;exact this
 intro m
 induction m with
 | nil=>exact Or.inl ⟨rfl,fun r h=>by cases h⟩
 | cons x m ih =>
   rw [List.reverse_cons,bestOf_snoc];generalize m.reverse = l at *;by_cases hq : (isR x && takesB x d) = true
   ·have hb:=isR_bits (by simp only [Bool.and_eq_true] at hq;exact hq.1);obtain ⟨n',hn'⟩ : ∃ n' : Nat,x.b = (n' : Int):=⟨x.b.toNat,by omega⟩;by_cases hm : (bestOf l d).1 < x.b
    ·have e : better d (bestOf l d) x = (x.b,x.p):=by
      unfold better;rw [hq,Bool.true_and,if_pos (decide_eq_true hm)]
     rw [e];refine Or.inr ⟨n',by omega,hn',⟨x,?_,rfl⟩,?_⟩
     ·have h0 : l.find? (pB d n') = none:=by
       rw [List.find?_eq_none];intro r hr hp;simp only [pB,Bool.and_eq_true,beq_iff_eq] at hp;rcases ih with ⟨_,h⟩ | ⟨n,_,e1,_,h⟩
       ·have:=h r hr;rw [hp.1.1,hp.2] at this;cases this
       ·have:=h r hr (by rw [hp.1.1,hp.2];rfl);omega
      rw [List.find?_append,h0,Option.none_or];simp only [List.find?_cons];have : pB d n' x = true:=by
       simp only [Bool.and_eq_true] at hq;simp only [pB,hq.1,hq.2,hn',beq_self_eq_true,Bool.and_self]
      rw [this]
     ·intro r hr hqr;rcases List.mem_append.1 hr with hr | hr
      ·rcases ih with ⟨_,h⟩ | ⟨n,_,e1,_,h⟩
       ·have:=h r hr;rw [hqr] at this;cases this
       ·have:=h r hr hqr;omega
      ·simp only [List.mem_cons,List.not_mem_nil,or_false] at hr;subst hr;omega
    ·have e : better d (bestOf l d) x = bestOf l d:=by
      unfold better;rw [hq,Bool.true_and,if_neg (by simp only [decide_eq_true_eq];exact hm)]
     rw [e];rcases ih with ⟨e1,_⟩ | ⟨n,hn,e1,⟨r0,hf,hp⟩,h⟩
     ·omega
     ·refine Or.inr ⟨n,hn,e1,⟨r0,by rw [List.find?_append,hf];rfl,hp⟩,?_⟩;intro r hr hqr;rcases List.mem_append.1 hr with hr | hr
      ·exact h r hr hqr
      ·simp only [List.mem_cons,List.not_mem_nil,or_false] at hr;subst hr;omega
   ·have e : better d (bestOf l d) x = bestOf l d:=by
     unfold better;rw [if_neg (by simp only [Bool.and_eq_true] at hq ⊢;exact fun h=>hq h.1)]
    rw [e];have hq' : (isR x && takesB x d) = false:=by simpa using hq
    rcases ih with ⟨e1,h⟩ | ⟨n,hn,e1,⟨r0,hf,hp⟩,h⟩
    ·refine Or.inl ⟨e1,fun r hr=>?_⟩;rcases List.mem_append.1 hr with hr | hr
     ·exact h r hr
     ·simp only [List.mem_cons,List.not_mem_nil,or_false] at hr;subst hr;exact hq'
    ·refine Or.inr ⟨n,hn,e1,⟨r0,by rw [List.find?_append,hf];rfl,hp⟩,?_⟩;intro r hr hqr;rcases List.mem_append.1 hr with hr | hr
     ·exact h r hr hqr
     ·simp only [List.mem_cons,List.not_mem_nil,or_false] at hr;subst hr;rw [hq'] at hqr;cases hqr
theorem rout_none {l : List Rt} {d : Int} (h : ∀ r ∈ l,(isR r && takesB r d) = false) : ∀ n,rout l d n = none
 | 0=>rfl
 | n + 1=>by
   have : l.find? (pB d n) = none:=by
    rw [List.find?_eq_none];intro r hr hp;simp only [pB,Bool.and_eq_true] at hp;have:=h r hr;rw [hp.1.1,hp.2] at this;cases this
   rw [rout,this,Option.none_or];exact rout_none h n
theorem rout_hit {l : List Rt} {d : Int} {n : Nat} {r : Rt} (hf : l.find? (pB d n) = some r) (h : ∀ r ∈ l,(isR r && takesB r d) = true -> r.b <= (n : Int)) : ∀ N,n < N -> rout l d N = some r
 | 0,hN=>by omega
 | N + 1,hN=>by
   by_cases he : n = N
   ·subst he;rw [rout,hf];rfl
   ·have : l.find? (pB d N) = none:=by
     rw [List.find?_eq_none];intro r hr hp;simp only [pB,Bool.and_eq_true,beq_iff_eq] at hp;have:=h r hr (by rw [hp.1.1,hp.2];rfl);omega
    rw [rout,this,Option.none_or];exact rout_hit hf h N (by omega)
theorem rout_out (l : List Rt) {d : Int} (hd : 0 <= d /\ d < 16) : rp (rout l d 5) = outN l d /\ (rout l d 5).isSome = outB l d:=by
 unfold outN outB;rw [if_pos hd,decide_eq_true hd.1,decide_eq_true hd.2];rcases best_spec d l with ⟨e,h⟩ | ⟨n,hn,e,⟨r,hf,hp⟩,h⟩
 ·rw [rout_none h 5,(bestOf_low l d).2 e,e];exact ⟨rfl,rfl⟩
 ·rw [rout_hit hf h 5 (by omega),e,<- hp];refine ⟨rfl,?_⟩;have : ((n : Int) == -1) = false:=by simp
  rw [this];rfl
theorem rout_row (b o cap : Nat) (xs : List Rt) (d : Int) (w : World) (hb : b < w.heap.size) (hn : xs.length <= cap) (hcap : cap <= maxLen) (hr : Hid (TAt w b o xs)) (h0 : 0 <= d) (h1 : d < 16) :
  Calls Tryz.prog 74 #[.slice (some ⟨b,o,none⟩) xs.length cap,.int .i64 d] w fun e w'=>e = .returned (.tuple #[.int .i64 (rp (rout xs d 5)),.bool (rout xs d 5).isSome]) /\ Below w.heap.size w w':=by
 unfold maxLen at hcap;have IN : Hid (∀ w,Calls Tryz.prog 8 #[.int .i64 d,.int .i64 0,.int .i64 15] w fun e w'=>e = .returned (.bool true) /\ w' = w):=fun w=>by
  have:=finR d 0 15 w;rw [show (decide (0 <= d) && decide (d <= 15)) = true by simp;omega] at this;exact this
 have H0 : Hid (0 <= d /\ d < 16):=⟨h0,h1⟩;clear h0 h1;go_enter Tryz.func74,Tryz.ntmps74;go_wp2_with fail;go_loopw [6] (fun i wr=>∃ j : Int,i = .int .i64 j /\ -1 <= j /\ j <= 4 /\ Below w.heap.size w wr /\ Hid (rout xs d 5 = rout xs d (j + 1).toNat)) (fun i _=>(intOf i + 1).toNat)
 case atStart=>exact ⟨4,rfl,by omega,by omega,Below.refl _ _,rfl⟩
 case round =>
  obtain ⟨j,rfl,hj1,hj2,D1,hl⟩:=hrel;by_cases hj : j = -1
  ·subst hj;have e : Hid (rout xs d 5 = none):=hl.out;go_wp2_with fail;go_ret2;exact ⟨by rw [e.out];rfl,D1⟩
  ·obtain ⟨m,rfl⟩ : ∃ m : Nat,j = m:=⟨j.toNat,by omega⟩;have hm4 : m <= 4:=by omega
   have HL : Hid (rout xs d 5 = (xs.find? (pB d m)).or (rout xs d m)):=hl.out;have tm : decide ((0 : Int) <= (m : Int)) = true:=by simp
   clear hl hj hj1 hj2;go_wp2_with fail;refine (IN.out _).mono ?_;rintro e w1 ⟨rfl,rfl⟩;go_wp2_with fail;go_loopw [7] (fun i wr=>∃ k : Nat,i = .int .i64 (k : Int) /\ k <= xs.length /\ Below w.heap.size w wr /\ Hid ((xs.take k).find? (pB d m) = none)) (fun i _=>xs.length - (intOf i).toNat)
   case atStart=>exact ⟨0,rfl,by omega,D1,rfl⟩
   case round =>
    clear D1;obtain ⟨k,rfl,hk,D1,hno⟩:=hrel;by_cases hlt : k < xs.length
    ·obtain ⟨r,hxk⟩ : ∃ r,xs[k]? = some r:=⟨_,List.getElem?_eq_getElem hlt⟩;have RA:=hr.out.below D1 hb;obtain ⟨c0,c1,c2⟩:=RA.at hxk;have IS : Hid (∀ w',Below wr.heap.size wr w' -> Calls Tryz.prog 133 #[rtw r.v r.b r.p] w' fun e w''=>e = .returned (.bool (isR r)) /\ Hid (Below w.heap.size w w'') /\ w''.cell? ⟨b,o + k * 3,none⟩ = some (.int .i64 r.v) /\ w''.cell? ⟨b,o + k * 3 + 1,none⟩ = some (.int .i64 r.b) /\ w''.cell? ⟨b,o + k * 3 + 2,none⟩ = some (.int .i64 r.p)):=fun w' hw' =>
      (rright_any r w').mono fun e w'' ⟨h1,h2⟩=>by
        have hB:=hw'.trans (h2.mono hw'.size);have hb' : b < wr.heap.size:=Nat.lt_of_lt_of_le hb D1.size;obtain ⟨y0,y1,y2⟩:=(RA.below hB hb').at hxk;exact ⟨h1,chn hB D1,y0,y1,y2⟩
     have TP : Hid ((isR r && (r.b == (m : Int))) = true -> ∀ w',Calls Tryz.prog 134 #[.int .i64 d,.int .i64 (m : Int)] w' fun e w''=>e = .returned (.int .i64 (topV d r.b)) /\ w'' = w'):=fun h w'=>by
      simp only [Bool.and_eq_true,beq_iff_eq] at h;rw [h.2];exact top_any d m w' H0.out.1 H0.out.2 (by omega) (by omega)
     have HP : pB d m r = (isR r && (r.b == (m : Int)) && (topV d r.b == r.v)):=by
      unfold pB;cases hx : isR r
      ·rfl
      ·rw [top_takes hx]
     have NX : Hid ((isR r && (r.b == (m : Int)) && (topV d r.b == r.v)) = false -> Hid ((xs.take (k + 1)).find? (pB d m) = none)):=fun h=>by
      show _ = _;rw [find_take hxk,hno.out,HP,h];rfl
     have HT : Hid ((isR r && (r.b == (m : Int)) && (topV d r.b == r.v)) = true -> rp (rout xs d 5) = r.p /\ (rout xs d 5).isSome = true):=fun h=>by
      rw [HL.out,find_here hxk hno.out (by rw [HP,h])];exact ⟨rfl,rfl⟩
     have R0 : Below wr.heap.size wr wr.drew:=(Below.refl _ _).drew;have lw:=D1.size;have k1 : (0 : Int) <= (k : Int):=by omega
     have k2 : (k : Int) < (xs.length : Int):=by omega
     clear hxk RA HP hno;generalize topV d r.b = tv at *;generalize isR r = x at *;generalize hy : (r.b == (m : Int)) = y at *;generalize r.v = rv0 at *;generalize r.b = rb0 at *;generalize r.p = rp0 at *;cases x
     ·clear TP HT;go_wp2_with fail;refine wp_region_held_drew (S:=(fun w'=>w'.cell? ⟨b,o + k * 3,none⟩ = some (.int .i64 rv0) /\ w'.cell? ⟨b,o + k * 3 + 1,none⟩ = some (.int .i64 rb0) /\ w'.cell? ⟨b,o + k * 3 + 2,none⟩ = some (.int .i64 rp0))) (by kernel_rfl) (⟨by assumption,by assumption,by assumption⟩) (fun hHeld=>?_);refine tk 0 ?_;try simp only [ly]
      refine tk 1 ?_;try simp only [ly]
      refine tk 2 ?_;try simp only [ly]
      refine tk 3 ?_;try simp only [ly]
      refine rd 4 (fun K hK=>?_);go_simp;refine (IS.out _ ‹_›).mono ?_;rintro e wz ⟨rfl,D3,z0,z1,z2⟩;try go_wp2_with fail
      clear hHeld;refine hK.out _ _ (⟨by assumption,by assumption,by assumption⟩) (fun hHeld=>?_);clear hK K;try simp only [ly]
      refine tk 5 ?_;try simp only [ly]
      refine tk0 6 ?_;try simp only [ly]
      refine tk0 7 ?_;try simp only [ly]
      refine tk0 8 ?_;try simp only [ly]
      refine tk0 9 ?_;try simp only [ly]
      refine tk0 10 ?_;try simp only [ly]
      refine tk0 11 ?_;try simp only [ly]
      refine tk0 12 ?_;try simp only [ly]
      refine tk 13 ?_;try simp only [ly]
      refine tk 14 ?_;try simp only [ly]
      refine tk0 15 ?_;try simp only [ly]
      refine tk0 16 ?_;try simp only [ly]
      refine tk0 17 ?_;try simp only [ly]
      refine tk0 18 ?_;try simp only [ly]
      refine tk0 19 ?_;try simp only [ly]
      refine tk0 20 ?_;try simp only [ly]
      refine tk0 21 ?_;try simp only [ly]
      refine tk0 22 ?_;try simp only [ly]
      refine tk0 23 ?_;try simp only [ly]
      refine tk 24 ?_;try simp only [ly]
      refine wpAnyH_done (by kernel_rfl) ?_ _;go_wp2_with fail;go_roundw
      case rel=>exact ⟨k + 1,by go_num,by omega,D3.out,NX.out rfl⟩
      case measure=>simp [intOf];omega
     cases y
     ·clear TP HT;go_wp2_with fail;refine wp_region_held_drew (S:=(fun w'=>w'.cell? ⟨b,o + k * 3,none⟩ = some (.int .i64 rv0) /\ w'.cell? ⟨b,o + k * 3 + 1,none⟩ = some (.int .i64 rb0) /\ w'.cell? ⟨b,o + k * 3 + 2,none⟩ = some (.int .i64 rp0))) (by kernel_rfl) (⟨by assumption,by assumption,by assumption⟩) (fun hHeld=>?_);refine tk 0 ?_;try simp only [ly]
      refine tk 1 ?_;try simp only [ly]
      refine tk 2 ?_;try simp only [ly]
      refine tk 3 ?_;try simp only [ly]
      refine rd 4 (fun K hK=>?_);go_simp;refine (IS.out _ ‹_›).mono ?_;rintro e wz ⟨rfl,D3,z0,z1,z2⟩;try go_wp2_with fail
      clear hHeld;refine hK.out _ _ (⟨by assumption,by assumption,by assumption⟩) (fun hHeld=>?_);clear hK K;try simp only [ly]
      refine tk 5 ?_;try simp only [ly]
      refine tk 6 ?_;try simp only [ly]
      refine tk 7 ?_;try simp only [ly]
      refine tk 8 ?_;try simp only [ly]
      refine tk 9 ?_;try simp only [ly]
      refine tk 10 ?_;try simp only [ly]
      refine tk 11 ?_;try simp only [ly]
      refine tk 12 ?_;try simp only [ly]
      refine tk 13 ?_;try simp only [ly]
      refine tk 14 ?_;try simp only [ly]
      refine tk0 15 ?_;try simp only [ly]
      refine tk0 16 ?_;try simp only [ly]
      refine tk0 17 ?_;try simp only [ly]
      refine tk0 18 ?_;try simp only [ly]
      refine tk0 19 ?_;try simp only [ly]
      refine tk0 20 ?_;try simp only [ly]
      refine tk0 21 ?_;try simp only [ly]
      refine tk0 22 ?_;try simp only [ly]
      refine tk0 23 ?_;try simp only [ly]
      refine tk 24 ?_;try simp only [ly]
      refine wpAnyH_done (by kernel_rfl) ?_ _;go_wp2_with fail;go_roundw
      case rel=>exact ⟨k + 1,by go_num,by omega,D3.out,NX.out rfl⟩
      case measure=>simp [intOf];omega
     ·go_wp2_with fail;refine wp_region_held_drew (S:=(fun w'=>w'.cell? ⟨b,o + k * 3,none⟩ = some (.int .i64 rv0) /\ w'.cell? ⟨b,o + k * 3 + 1,none⟩ = some (.int .i64 rb0) /\ w'.cell? ⟨b,o + k * 3 + 2,none⟩ = some (.int .i64 rp0))) (by kernel_rfl) (⟨by assumption,by assumption,by assumption⟩) (fun hHeld=>?_);refine tk 0 ?_;try simp only [ly]
      refine tk 1 ?_;try simp only [ly]
      refine tk 2 ?_;try simp only [ly]
      refine tk 3 ?_;try simp only [ly]
      refine rd 4 (fun K hK=>?_);go_simp;refine (IS.out _ ‹_›).mono ?_;rintro e wz ⟨rfl,D3,z0,z1,z2⟩;try go_wp2_with fail
      clear hHeld;refine hK.out _ _ (⟨by assumption,by assumption,by assumption⟩) (fun hHeld=>?_);clear hK K;try simp only [ly]
      refine tk 5 ?_;try simp only [ly]
      refine tk 6 ?_;try simp only [ly]
      refine tk 7 ?_;try simp only [ly]
      refine tk 8 ?_;try simp only [ly]
      refine tk 9 ?_;try simp only [ly]
      refine tk 10 ?_;try simp only [ly]
      refine tk 11 ?_;try simp only [ly]
      refine tk 12 ?_;try simp only [ly]
      refine tk 13 ?_;try simp only [ly]
      refine tk 14 ?_;try simp only [ly]
      refine tk 15 ?_;try simp only [ly]
      refine tk 16 ?_;try simp only [ly]
      refine tk 18 ?_;try simp only [ly]
      refine tk 19 ?_;try simp only [ly]
      refine tk 20 ?_;try simp only [ly]
      refine tk 21 ?_;try simp only [ly]
      refine tk 22 ?_;try simp only [ly]
      refine rd 17 (fun K hK=>?_);go_simp;refine (TP.out rfl _).mono ?_;rintro e wy ⟨rfl,rfl⟩;try go_wp2_with fail
      clear hHeld;refine hK.out _ _ (⟨by assumption,by assumption,by assumption⟩) (fun hHeld=>?_);clear hK K;try simp only [ly]
      refine tk 23 ?_;try simp only [ly]
      refine tk 24 ?_;try simp only [ly]
      refine wpAnyH_done (by kernel_rfl) ?_ _;cases hq : (tv == rv0)
      ·have HNO : Hid ((true && true && (tv == rv0)) = false):=by show _ = _;rw [hq];rfl
       go_wp2_with fail;go_roundw
       case rel=>exact ⟨k + 1,by go_num,by omega,D3.out,NX.out HNO.out⟩
       case measure=>simp [intOf];omega
      ·have HYES : Hid (rp (rout xs d 5) = rp0 /\ (rout xs d 5).isSome = true):=HT.out (by rw [hq];rfl);go_wp2_with fail;go_ret2;exact ⟨by rw [HYES.out.1,HYES.out.2];rfl,D3.out⟩
    ·obtain rfl : k = xs.length:=by omega
     have HN : Hid (rout xs d 5 = rout xs d m):=by
      show _ = _;have:=hno.out;rw [List.take_length] at this;rw [HL.out,this,Option.none_or]
     go_wp2_with fail;go_roundw
     case rel=>exact ⟨(m : Int) - 1,by go_num,by omega,by omega,D1,by show _ = _;rw [HN.out];congr 1;omega⟩
     case measure=>simp [intOf]
theorem rout_nil (A : Option Addr) (cap : Nat) (d : Int) (w : World) (h0 : 0 <= d) (h1 : d < 16) :
  Calls Tryz.prog 74 #[.slice A 0 cap,.int .i64 d] w fun e w'=>e = .returned (.tuple #[.int .i64 0,.bool false]) /\ Below w.heap.size w w':=by
 have IN : Hid (∀ w,Calls Tryz.prog 8 #[.int .i64 d,.int .i64 0,.int .i64 15] w fun e w'=>e = .returned (.bool true) /\ w' = w):=fun w=>by
  have:=finR d 0 15 w;rw [show (decide (0 <= d) && decide (d <= 15)) = true by simp;omega] at this;exact this
 clear h0 h1;go_enter Tryz.func74,Tryz.ntmps74;go_wp2_with fail;go_loopw [6] (fun i wr=>∃ j : Int,i = .int .i64 j /\ -1 <= j /\ j <= 4 /\ Below w.heap.size w wr) (fun i _=>(intOf i + 1).toNat)
 case atStart=>exact ⟨4,rfl,by omega,by omega,Below.refl _ _⟩
 case round =>
  obtain ⟨j,rfl,hj1,hj2,D1⟩:=hrel;by_cases hj : j = -1
  ·subst hj;go_wp2_with fail;go_ret2;exact ⟨rfl,D1⟩
  ·obtain ⟨m,rfl⟩ : ∃ m : Nat,j = m:=⟨j.toNat,by omega⟩;have tm : decide ((0 : Int) <= (m : Int)) = true:=by simp
   clear hj hj1;go_wp2_with fail;refine (IN.out _).mono ?_;rintro e w1 ⟨rfl,rfl⟩;go_wp2_with fail;go_loopw [7] (fun i wr=>i = .int .i64 0 /\ Below w.heap.size w wr) (fun i _=>0)
   case atStart=>exact ⟨rfl,D1⟩
   case round =>
    clear D1;obtain ⟨rfl,D1⟩:=hrel;go_wp2_with fail;go_roundw
    case rel=>exact ⟨(m : Int) - 1,by go_num,by omega,by omega,D1⟩
    case measure=>simp [intOf]
theorem rout_wide (v : Value) (d : Int) (w : World) (h : d < 0 ∨ 16 <= d) :
  Calls Tryz.prog 74 #[v,.int .i64 d] w fun e w'=>e = .returned (.tuple #[.int .i64 0,.bool false]) /\ Below w.heap.size w w':=by
 have IN : Hid (∀ w,Calls Tryz.prog 8 #[.int .i64 d,.int .i64 0,.int .i64 15] w fun e w'=>e = .returned (.bool false) /\ w' = w):=fun w=>by
  have:=finR d 0 15 w;rw [show (decide (0 <= d) && decide (d <= 15)) = false by
   rcases h with h | h
   ·simp;omega
   ·simp;omega] at this
  exact this
 clear h;go_enter Tryz.func74,Tryz.ntmps74;go_wp2_with fail;go_loopw [6] (fun i wr=>i = .int .i64 4 /\ wr = w) (fun i _=>0)
 case atStart=>exact ⟨rfl,rfl⟩
 case round =>
  obtain ⟨rfl,rfl⟩:=hrel;go_wp2_with fail;refine (IN.out _).mono ?_;rintro e w1 ⟨rfl,rfl⟩;go_wp2_with fail;go_ret2;exact ⟨rfl,Below.refl _ _⟩
theorem rout_any {v : Value} {xs : List Rt} (d : Int) (w : World) (h : Routes w.heap.size w v xs) :
  Calls Tryz.prog 74 #[v,.int .i64 d] w fun e w'=>e = .returned (.tuple #[.int .i64 (outN xs d),.bool (outB xs d)]) /\ Below w.heap.size w w':=by
 by_cases hd : 0 <= d /\ d < 16
 ·obtain ⟨e1,e2⟩:=rout_out xs hd;rw [<- e1,<- e2];obtain ⟨A,cap,rfl,_,h1,h2,h3⟩:=h;by_cases hx : xs = []
  ·subst hx;exact rout_nil A cap d w hd.1 hd.2
  ·obtain ⟨b,o,rfl,hb,hr⟩:=h3 hx;exact rout_row b o cap xs d w hb h1 h2 hr hd.1 hd.2
 ·have e1 : outN xs d = 0:=by unfold outN;rw [if_neg hd]
  have e2 : outB xs d = false:=by
   unfold outB;by_cases h0 : 0 <= d
   ·have : ¬ d < 16:=fun h1=>hd ⟨h0,h1⟩;simp [this]
   ·simp [h0]
  rw [e1,e2];exact rout_wide v d w (by omega)
theorem routes_row (b o cap : Nat) (xs : List Rt) (w : World) (hb : b < w.heap.size) (hr : Hid (TAt w b o xs)) (h8 : xs.length <= 8) :
  Calls Tryz.prog 71 #[.slice (some ⟨b,o,none⟩) xs.length cap] w fun e w'=>e = .returned (.int .i64 (checkFrom xs 0)) /\ Below w.heap.size w w':=by
 have t8 : decide ((8 : Int) < (xs.length : Int)) = false:=by simp;omega
 go_enter Tryz.func71,Tryz.ntmps71;go_wp2_with fail;go_loopw [3] (fun i wr=>∃ k : Nat,i = .int .i64 (k : Int) /\ k <= xs.length /\ Below w.heap.size w wr /\ Hid (checkFrom xs 0 = checkFrom xs k)) (fun i _=>xs.length - (intOf i).toNat)
 case atStart=>exact ⟨0,rfl,by omega,Below.refl _ _,rfl⟩
 case round =>
  obtain ⟨k,rfl,hk,D1,hl⟩:=hrel;by_cases hlt : k < xs.length
  ·obtain ⟨r,hxk⟩ : ∃ r,xs[k]? = some r:=⟨_,List.getElem?_eq_getElem hlt⟩;obtain ⟨c0,c1,c2⟩:=(hr.out.below D1 hb).at hxk;have Hd : Hid (checkFrom xs k = if (if isR r then (if (xs.take k).any (fun a=>sameA a r) then 5 else 0) else 1 : Int) = 0 then checkFrom xs (k + 1) else (if isR r then (if (xs.take k).any (fun a=>sameA a r) then 5 else 0) else 1 : Int)):=checkFrom_at hxk;have IS : Hid (∀ w,Calls Tryz.prog 133 #[rtw r.v r.b r.p] w fun e w'=>e = .returned (.bool (isR r)) /\ Below w.heap.size w w'):=fun w=>rright_any r w;have HX : Hid (xs[k]? = some r):=hxk;have k1 : (0 : Int) <= (k : Int):=by omega
   have k2 : (k : Int) < (xs.length : Int):=by omega
   clear hxk;cases hx : isR r
   ·rw [hx] at IS Hd;have fin : Hid (checkFrom xs 0 = 1):=by show _ = _;rw [hl.out,Hd.out];simp
    clear hl Hd HX hx;generalize r.v = rv0 at *;generalize r.b = rb0 at *;generalize r.p = rp0 at *;go_wp2_with fail;refine (IS.out _).mono ?_;rintro e w3 ⟨rfl,hb3⟩;have D3:=chn hb3 D1;clear hb3 D1 c0 c1 c2 IS;go_wp2_with fail;go_ret;exact ⟨by rw [fin.out];rfl,D3⟩
   ·rw [hx] at IS Hd;clear hx;go_wp2_with fail;refine (IS.out _).mono ?_;rintro e w3 ⟨rfl,hb3⟩;have D3:=chn hb3 D1;clear hb3 D1 c0 c1 c2 IS;go_wp2_with fail;go_loopw [4] (fun i wr=>∃ j : Nat,i = .int .i64 (j : Int) /\ j <= k /\ Below w.heap.size w wr /\ Hid ((xs.take j).any (fun a=>sameA a r) = false)) (fun i _=>k - (intOf i).toNat)
    case atStart=>exact ⟨0,rfl,by omega,D3,rfl⟩
    case round =>
     clear D3;obtain ⟨j,rfl,hj,D1,hno⟩:=hrel;by_cases hjk : j < k
     ·obtain ⟨a,hxj⟩ : ∃ a,xs[j]? = some a:=⟨_,List.getElem?_eq_getElem (by omega)⟩;obtain ⟨c0,c1,c2⟩:=(hr.out.below D1 hb).at HX.out;obtain ⟨g0,g1,g2⟩:=(hr.out.below D1 hb).at hxj;have j1 : (0 : Int) <= (j : Int):=by omega
      have j2 : (j : Int) < (xs.length : Int):=by omega
      have NX : Hid (((a.v == r.v) && (a.b == r.b)) = false -> Hid ((xs.take (j + 1)).any (fun a=>sameA a r) = false)):=fun h=>by
       show _ = _;rw [any_take hxj,hno.out];exact h
      have HT : Hid (((a.v == r.v) && (a.b == r.b)) = true -> checkFrom xs 0 = 5):=fun h=>by
       have : (xs.take k).any (fun a=>sameA a r) = true:=any_here (k:=j) (by rw [List.getElem?_take];simp [hjk];rw [<- hxj]) h;rw [hl.out,Hd.out,this];simp
      clear hxj hno;generalize a.v = av0 at *;generalize a.b = ab0 at *;generalize a.p = ap0 at *;generalize r.v = rv0 at *;generalize r.b = rb0 at *;generalize r.p = rp0 at *;cases hv : (av0 == rv0)
      ·have NX' : Hid (Hid ((xs.take (j + 1)).any (fun a=>sameA a r) = false)):=NX.out (by rw [hv];rfl);clear NX HT;go_wp2_with fail
       go_quiet (fail)
       go_wp2_with fail;go_roundw
       case rel=>exact ⟨j + 1,by go_num,by omega,belowN D1 _,NX'.out⟩
       case measure=>simp [intOf];omega
      ·cases hv2 : (ab0 == rb0)
       ·have NX' : Hid (Hid ((xs.take (j + 1)).any (fun a=>sameA a r) = false)):=NX.out (by rw [hv,hv2];rfl);clear NX HT;go_wp2_with fail
        go_quiet (fail)
        go_wp2_with fail;go_roundw
        case rel=>exact ⟨j + 1,by go_num,by omega,belowN D1 _,NX'.out⟩
        case measure=>simp [intOf];omega
       ·have fin : Hid (checkFrom xs 0 = 5):=HT.out (by rw [hv,hv2];rfl);clear NX HT;go_wp2_with fail
        go_quiet (fail)
        go_wp2_with fail;go_ret;exact ⟨by rw [fin.out];rfl,belowN D1 _⟩
     ·obtain rfl : j = k:=by omega
      have HN : Hid (checkFrom xs 0 = checkFrom xs (j + 1)):=by
       show _ = _;rw [hl.out,Hd.out,hno.out];simp
      go_wp2_with fail;go_roundw
      case rel=>exact ⟨j + 1,by go_num,by omega,D1,HN⟩
      case measure=>simp [intOf];omega
  ·have fin : Hid (checkFrom xs 0 = 0):=by show _ = _;rw [hl.out,checkFrom_end (by omega)]
   go_wp2_with fail;go_ret;exact ⟨by rw [fin.out];rfl,D1⟩
theorem routes_nil (A : Option Addr) (cap : Nat) (w : World) :
  Calls Tryz.prog 71 #[.slice A 0 cap] w fun e w'=>e = .returned (.int .i64 0) /\ Below w.heap.size w w':=by
 go_enter Tryz.func71,Tryz.ntmps71;go_wp2_with fail;go_loopw [3] (fun i wr=>i = .int .i64 0 /\ Below w.heap.size w wr) (fun i _=>0)
 case atStart=>exact ⟨rfl,Below.refl _ _⟩
 case round =>
  obtain ⟨rfl,D1⟩:=hrel;go_wp2_with fail;go_ret;exact ⟨rfl,D1⟩
theorem routes_large (A : Option Addr) (n cap : Nat) (w : World) (h : 8 < n) :
  Calls Tryz.prog 71 #[.slice A n cap] w fun e w'=>e = .returned (.int .i64 2) /\ Below w.heap.size w w':=by
 have t8 : decide ((8 : Int) < (n : Int)) = true:=by simp;omega
 go_enter Tryz.func71,Tryz.ntmps71;go_wp2_with fail;go_ret;exact ⟨rfl,Below.refl _ _⟩
theorem routes_any {v : Value} {xs : List Rt} (w : World) (h : Routes w.heap.size w v xs) :
  Calls Tryz.prog 71 #[v] w fun e w'=>e = .returned (.int .i64 (checkV xs)) /\ Below w.heap.size w w':=by
 obtain ⟨A,cap,rfl,_,_,_,h3⟩:=h;unfold checkV;by_cases h8 : 8 < xs.length
 ·rw [if_pos h8];exact routes_large A xs.length cap w h8
 ·rw [if_neg h8];by_cases hx : xs = []
  ·subst hx;rw [checkFrom_end (by simp)];exact routes_nil A cap w
  ·obtain ⟨b,o,rfl,hb,hr⟩:=h3 hx;exact routes_row b o cap xs w hb hr (by omega)
end Go.Proofs.YtppbfikimalojaaGreat
namespace Go.Proofs.YtppbfikimalojaaGreat
open Go.RowKit Go.Maps
abbrev Boxes:=List (Nat × Array Value × TypeId)
structure Dx (B0 : Nat) (W0 : World) (nb sb S M kb mb : Nat) (vd vl : Value) (ds : List Dv) (ls : List Lk) (bl : (Int × Int) -> Option Nat) (T : Tab) (k : Int) (n0 : Nat) (bx : Boxes) (P : PutS) (W : World) : Prop where
 x : Sx B0 W0 nb sb S M kb mb vd vl ds ls bl T k P W
 up : n0 <= W.heap.size
 lo : mb < n0 /\ ∀ t b,bl t = some b -> b < n0
 bx : ∀ y ∈ bx,n0 <= y.1 /\ Bk W y.1 y.2.1 y.2.2
section
variable {B0 : Nat} {W0 W W' : World} {nb sb S M kb mb n0 : Nat} {vd vl : Value} {ds : List Dv} {ls : List Lk} {bl : (Int × Int) -> Option Nat} {T : Tab} {k : Int} {P : PutS} {t : Int × Int} {b c : Nat} {bx : Boxes}
theorem Dx.below (h : Dx B0 W0 nb sb S M kb mb vd vl ds ls bl T k n0 bx P W) (hb : Below W.heap.size W W') : Dx B0 W0 nb sb S M kb mb vd vl ds ls bl T k n0 bx P W' :=
 ⟨h.x.grow hb,Nat.le_trans h.up hb.size,h.lo,fun y hy=>⟨(h.bx y hy).1,Bk.keep hb (h.bx y hy).2⟩⟩
theorem Dx.new (h : Dx B0 W0 nb sb S M kb mb vd vl ds ls bl T k n0 bx P W) (cs : Array Value) (ty : TypeId) : Dx B0 W0 nb sb S M kb mb vd vl ds ls bl T k n0 ((W.heap.size,cs,ty) :: bx) P (W.alloc (.cells cs ty)):=by
 have h':=h.below (Below.alN (Below.refl _ _) (.cells cs ty));refine ⟨h'.x,h'.up,h'.lo,fun y hy=>?_⟩;rcases List.mem_cons.1 hy with rfl | hy
 ·exact ⟨h.up,bk_new W cs ty⟩
 ·exact h'.bx y hy
theorem Dx.get (h : Dx B0 W0 nb sb S M kb mb vd vl ds ls bl T k n0 bx P W) {y : Nat × Array Value × TypeId} (hy : y ∈ bx) : Bk W y.1 y.2.1 y.2.2:=(h.bx y hy).2
theorem Dx.less (h : Dx B0 W0 nb sb S M kb mb vd vl ds ls bl T k n0 bx P W) {bx' : Boxes} (hs : ∀ y ∈ bx',y ∈ bx) : Dx B0 W0 nb sb S M kb mb vd vl ds ls bl T k n0 bx' P W:=⟨h.x,h.up,h.lo,fun y hy=>h.bx y (hs y hy)⟩
end
structure DV (V : Boxes -> PutS -> World -> Prop) (d : Dv) (i : Int) (ls : List Lk) (T : Tab) (k : Int) (S nb sb kb mb : Nat) (vn vr vt : Value) : Prop where
 below : ∀ {bx : Boxes} {Q : PutS} {W W' : World},V bx Q W -> Below W.heap.size W W' -> V bx Q W'
 new : ∀ {bx : Boxes} {Q : PutS} {W : World},V bx Q W -> ∀ (c : Array Value) (t : TypeId),V ((W.heap.size,c,t) :: bx) Q (W.alloc (.cells c t))
 get : ∀ {bx : Boxes} {Q : PutS} {W : World},V bx Q W -> ∀ y ∈ bx,Bk W y.1 y.2.1 y.2.2
 less : ∀ {bx bx' : Boxes} {Q : PutS} {W : World},V bx Q W -> (∀ y ∈ bx',y ∈ bx) -> V bx' Q W
 set : ∀ {bx : Boxes} {Q : PutS} {W : World} {b : Nat} {c : Array Value} {t : TypeId},V ((b,c,t) :: bx) Q W -> (∀ y ∈ bx,y.1 ≠ b) -> ∀ (j : Nat) (u : Value),V ((b,c.setIfInBounds j u,t) :: bx) Q (W.setCell ⟨b,j,none⟩ u)
 was : ∀ {bx : Boxes} {Q : PutS} {W : World},V bx Q W -> ∀ (q : Int) (c : Nat),0 <= q -> q < portsV d.kind -> c < 16384 -> Calls Tryz.prog 73 #[.pointer (some ⟨S,0,none⟩),.int .i64 i,.int .i64 q,.int .i64 (c : Int),.int .i64 k] W fun e w'=>e = .returned (.bool (wasB T k (i,q) c)) /\ w' = W
 put : ∀ {bx : Boxes} {Q : PutS} {W : World},V bx Q W -> ∀ (o : Int) (p : Pk),pkOk p = true -> Calls Tryz.prog 36 #[.int .i64 i,.int .i64 o,pkV p,.pointer (some ⟨nb,0,none⟩),.pointer (some ⟨sb,0,none⟩),.pointer (some ⟨kb,0,none⟩),.pointer (some ⟨mb,0,none⟩)] W fun e w'=>e = .returned (.tuple #[]) /\ V bx (addP Q (peerF ls i o) (codeN p)) w'
 peer : ∀ {bx : Boxes} {Q : PutS} {W : World},V bx Q W -> ∀ o : Int,Calls Tryz.prog 35 #[vn,.agg #[.int .i64 i,.int .i64 o]] W fun e w'=>e = .returned (.tuple #[placeV (peerF ls i o),.bool (peerF ls i o).isSome]) /\ V bx Q w'
 out : ∀ {bx : Boxes} {Q : PutS} {W : World},V bx Q W -> ∀ x : Int,Calls Tryz.prog 74 #[vt,.int .i64 x] W fun e w'=>e = .returned (.tuple #[.int .i64 (outN (routesOf d) x),.bool (outB (routesOf d) x)]) /\ V bx Q w'
 lets : ∀ {bx : Boxes} {Q : PutS} {W : World},V bx Q W -> ∀ p : Pk,Calls Tryz.prog 75 #[vr,pkV p] W fun e w'=>e = .returned (.bool (letsD d p)) /\ V bx Q w'
def un (P R : PutS) : PutS:=fun t c=>P t c ∨ R t c
def partQ (one : Int -> Nat -> PutS) (q c : Nat) : PutS:=fun t c'=>∃ (q0 c0 : Nat),(q0 < q ∨ (q0 = q /\ c0 < c)) /\ c0 < 16384 /\ one (q0 : Int) c0 t c'
section
variable {one : Int -> Nat -> PutS} {Q0 Q R : PutS} {q c : Nat}
theorem un_start : un Q0 (partQ one 0 0) = Q0:=by
 funext t c'
 refine propext ⟨fun h=>h.resolve_right ?_,Or.inl⟩;rintro ⟨q0,c0,h,_⟩;omega
theorem un_step (hc : c < 16384) : un (un Q0 (partQ one q c)) (one (q : Int) c) = un Q0 (partQ one q (c + 1)):=by
 funext t c'
 refine propext ⟨?_,?_⟩
 ·rintro ((h | ⟨q0,c0,h1,h2,h3⟩) | h)
  ·exact Or.inl h
  ·exact Or.inr ⟨q0,c0,by omega,h2,h3⟩
  ·exact Or.inr ⟨q,c,by omega,hc,h⟩
 ·rintro (h | ⟨q0,c0,h1,h2,h3⟩)
  ·exact Or.inl (Or.inl h)
  ·by_cases e : q0 = q /\ c0 = c
   ·obtain ⟨rfl,rfl⟩:=e;exact Or.inr h3
   ·exact Or.inl (Or.inr ⟨q0,c0,by omega,h2,h3⟩)
theorem un_row : partQ one q 16384 = partQ one (q + 1) 0:=by
 funext t c'
 refine propext ⟨fun ⟨q0,c0,h1,h2,h3⟩=>⟨q0,c0,by omega,h2,h3⟩,fun ⟨q0,c0,h1,h2,h3⟩=>⟨q0,c0,by omega,h2,h3⟩⟩
theorem un_end : partQ one q 0 = sumP (q : Int) one:=by
 funext t c'
 refine propext ⟨fun ⟨q0,c0,h1,h2,h3⟩=>⟨(q0 : Int),c0,by omega,by omega,h2,h3⟩,fun ⟨q0,c0,h1,h2,h3,h4⟩=>⟨q0.toNat,c0,by omega,h3,?_⟩⟩;rw [show ((q0.toNat : Nat) : Int) = q0 by omega];exact h4
theorem un_no (h : ∀ t c,¬ R t c) : un Q R = Q:=by
 funext t c'
 exact propext ⟨fun h'=>h'.resolve_right (h t c'),Or.inl⟩
theorem un_one {t? : Option (Int × Int)} (h : ∀ t c',R t c' ↔ t? = some t /\ c' = c) : un Q R = addP Q t? c:=by
 funext t c'
 exact propext (or_congr Iff.rfl (h t c'))
end
section
variable {d : Dv} {i : Int} {ls : List Lk} {T : Tab} {k : Int} {Q : PutS} {q : Int} {c : Nat}
theorem one2_no (h : ¬ (wasB T k (i,q) c = true /\ outB (routesOf d) (pkN c).d = true /\ letsD d (pkN c) = true)) : un Q (one2 d i ls T k q c) = Q:=un_no fun _ _ ⟨h1,_,h3,h4,_⟩=>h ⟨h1,h3,h4⟩
theorem one2_yes (h1 : wasB T k (i,q) c = true) (h2 : outB (routesOf d) (pkN c).d = true) (h3 : letsD d (pkN c) = true) : un Q (one2 d i ls T k q c) = addP Q (peerF ls i (outN (routesOf d) (pkN c).d)) (codeN (pkN c)):=by
 rw [codeN_pkN];exact un_one fun t c'=>⟨fun ⟨_,a,_,_,b⟩=>⟨b,a⟩,fun ⟨a,b⟩=>⟨h1,b,h2,h3,a⟩⟩
theorem one3_was (h : wasB T k (i,q) c = false) : un Q (one3 d i ls T k q c) = Q:=un_no fun _ _ ⟨h1,_⟩=>by rw [h] at h1;cases h1
theorem one3_no0 (h : letsD d (pkN c) = false) : un Q (one3 d i ls T k 0 c) = Q:=un_no fun _ _ ⟨_,_,h2⟩=>by
 rcases h2 with ⟨_,h2,_⟩ | ⟨h2,_⟩
 ·rw [h] at h2;cases h2
 ·omega
theorem one3_yes0 (h1 : wasB T k (i,0) c = true) (h2 : letsD d (pkN c) = true) : un Q (one3 d i ls T k 0 c) = addP Q (peerF ls i 1) (codeN (pkN c)):=by
 rw [codeN_pkN];refine un_one fun t c'=>⟨fun ⟨_,a,b⟩=>?_,fun ⟨a,b⟩=>⟨h1,b,Or.inl ⟨rfl,h2,a⟩⟩⟩;rcases b with ⟨_,_,b⟩ | ⟨b,_⟩
 ·exact ⟨b,a⟩
 ·omega
theorem one3_no1 (h : ¬ ((peerF ls i 1).isSome = true /\ wasB T k (i,0) (codeN (flipP (pkN c))) = true /\ letsD d (flipP (pkN c)) = true)) : un Q (one3 d i ls T k 1 c) = Q:=un_no fun _ _ ⟨_,_,h2⟩=>by
 rcases h2 with ⟨h2,_⟩ | ⟨_,h2,h3,h4,_⟩
 ·omega
 ·exact h ⟨h2,h3,h4⟩
theorem one3_yes1 (h1 : wasB T k (i,1) c = true) (h2 : (peerF ls i 1).isSome = true) (h3 : wasB T k (i,0) (codeN (flipP (pkN c))) = true) (h4 : letsD d (flipP (pkN c)) = true) : un Q (one3 d i ls T k 1 c) = addP Q (peerF ls i 0) (codeN (pkN c)):=by
 rw [codeN_pkN];refine un_one fun t c'=>⟨fun ⟨_,a,b⟩=>?_,fun ⟨a,b⟩=>⟨h1,b,Or.inr ⟨rfl,h2,h3,h4,a⟩⟩⟩;rcases b with ⟨b,_⟩ | ⟨_,_,_,_,b⟩
 ·omega
 ·exact ⟨b,a⟩
end
theorem one2_was {d : Dv} {i : Int} {ls : List Lk} {T : Tab} {k : Int} {Q : PutS} {q : Int} {c : Nat} (h : wasB T k (i,q) c = false) : un Q (one2 d i ls T k q c) = Q:=one2_no fun h'=>by rw [h] at h';cases h'.1
theorem Hid.of {p : Prop} (h : p) : Hid p:=h
theorem back_any (p : Pk) (w : World) : Calls Tryz.prog 76 #[pkV p] w fun e w'=>e = .returned (pkV (flipP p)) /\ Below w.heap.size w w':=by
 have D2:=Below.alN (Below.alN (Below.refl w.heap.size w) (.cells #[.int .i64 p.s,.int .i64 p.d,.int .i64 p.sp,.int .i64 p.dp] 29)) (.cells #[.int .i64 0,.int .i64 0,.int .i64 0,.int .i64 0] 29);have P2:=(bk_new w #[.int .i64 p.s,.int .i64 p.d,.int .i64 p.sp,.int .i64 p.dp] 29).alloc (.cells #[.int .i64 0,.int .i64 0,.int .i64 0,.int .i64 0] 29);have R2:=bk_new' (w.alloc (.cells #[.int .i64 p.s,.int .i64 p.d,.int .i64 p.sp,.int .i64 p.dp] 29)) #[.int .i64 0,.int .i64 0,.int .i64 0,.int .i64 0] 29 (w.heap.size + 1) (by simp);obtain ⟨p0,p1,p2,p3,_⟩:=P2.four;obtain ⟨r0,r1,r2,r3,f0,f1,f2,f3⟩:=R2.four;obtain ⟨s,d,sp,dp⟩:=p;dsimp only at *;go_enter Tryz.func76,Tryz.ntmps76;go_wp2_with fail;refine bodyPost_ret (v:=.agg #[.int .i64 d,.int .i64 s,.int .i64 dp,.int .i64 sp]) (by simp [results,Tryz.results76,go_sem]) rfl ⟨rfl,?_⟩
 go_grown
section
variable {B0 : Nat} {W0 W W' : World} {nb sb S M kb mb n : Nat} {vd vl : Value} {ds : List Dv} {ls : List Lk} {bl : (Int × Int) -> Option Nat} {D : (Int × Int) -> Prop} {T : Tab} {k : Int} {P : PutS} {t : Int × Int} {b c : Nat} {g g' : Nat -> Int}
theorem RowI.congr (h : RowI W b g) (e : ∀ c,c < 16384 -> g c = g' c) : RowI W b g':=by
 obtain ⟨cs,h1,h2,h3⟩:=h;exact ⟨cs,h1,h2,fun c hc=>by rw [<- e c hc];exact h3 c hc⟩
theorem Sy.far (h : Sy B0 W0 nb sb S M vd vl ds ls bl n D T W) {j : Nat} (hb : B0 <= b) (hn : nb ≠ b /\ sb ≠ b /\ S ≠ b /\ M ≠ b) (hr : ∀ t,bl t ≠ some b) (u : Value) : Sy B0 W0 nb sb S M vd vl ds ls bl n D T (W.setCell ⟨b,j,none⟩ u):=by
 have h1 : ∀ i,i ≠ b -> (W.setCell ⟨b,j,none⟩ u).heap[i]? = W.heap[i]?:=fun i e=>Below.heap_setCell W ⟨b,j,none⟩ _ i e;have hbel : Below B0 W (W.setCell ⟨b,j,none⟩ u):=(Below.refl B0 W).setCell (p:=⟨b,j,none⟩) hb _;exact ⟨h.bel.trans hbel,h.d.below hbel,h.l.below hbel,(h1 _ hn.1).trans h.n,(h1 _ hn.2.1).trans h.s,(h1 _ hn.2.2.1).trans h.S,h.map.same (h1 _ hn.2.2.2),fun t b' e=>⟨(h.row t b' e).1.same (h1 _ (fun e'=>hr t (by rw [e,e']))),(h.row t b' e).2⟩,h.inj,h.dom,h.lo⟩
def DomP (ds : List Dv) (i q : Nat) : (Int × Int) -> Prop:=fun t=>isPl ds t.1 t.2 = true /\ (t.1 < (i : Int) ∨ (t.1 = (i : Int) /\ t.2 < (q : Int)))
def OnlyP (ds : List Dv) (bl : (Int × Int) -> Option Nat) : Prop:=∀ t b,bl t = some b -> isPl ds t.1 t.2 = true
theorem isPl_of {i q : Nat} {d : Dv} (hd : ds[i]? = some d) (hq : (q : Int) < portsV d.kind) : isPl ds (i : Int) (q : Int) = true:=by
 have hi:=(List.getElem?_eq_some_iff.1 hd).1;unfold isPl;have : kindAt ds (i : Int) = d.kind:=by simp [kindAt,hd]
 rw [this];simp only [Bool.and_eq_true,decide_eq_true_eq];omega
theorem isPl_at {i : Nat} {d : Dv} {q : Int} (hd : ds[i]? = some d) (h : isPl ds (i : Int) q = true) : 0 <= q /\ q < portsV d.kind:=by
 unfold isPl at h;have : kindAt ds (i : Int) = d.kind:=by simp [kindAt,hd]
 rw [this] at h;simp only [Bool.and_eq_true,decide_eq_true_eq] at h;omega
theorem prt_of (hl : ds.length <= 10) (h : isPl ds t.1 t.2 = true) : prtOk t:=by
 have hp : portsV (kindAt ds t.1) <= 4:=by
  unfold portsV
  split <;> (try split) <;> (try split) <;> (try split) <;> omega
 unfold isPl at h;simp only [Bool.and_eq_true,decide_eq_true_eq] at h;exact ⟨i64ok_of (by omega) (by omega),i64ok_of (by omega) (by omega)⟩
def HostP (ds : List Dv) (ls : List Lk) (i c : Nat) : PutS:=fun t c'=>∃ (i' : Nat) (d : Dv),ds[i']? = some d /\ d.kind = 1 /\ peerF ls i' 0 = some t /\ ∃ x : Nat,x < 1024 /\ (i' < i ∨ (i' = i /\ x < c)) /\ (c' : Int) = d.addr * 1024 + (x : Int)
open Classical in
noncomputable def hostT (ds : List Dv) (ls : List Lk) (i c : Nat) : Tab:=fun t c'=>if HostP ds ls i c t c' then 0 else -1
theorem hostT_start : hostT ds ls 0 0 = fun _ _=>-1:=by
 funext t c'
 unfold hostT;rw [if_neg];rintro ⟨i',d,_,_,_,x,_,h,_⟩;omega
theorem hostT_skip {i : Nat} (h : ∀ d,ds[i]? = some d -> ¬ (d.kind = 1 /\ (peerF ls (i : Int) 0).isSome = true)) : hostT ds ls i 0 = hostT ds ls (i + 1) 0:=by
 funext t c'
 have e : HostP ds ls i 0 t c' ↔ HostP ds ls (i + 1) 0 t c':=by
  constructor
  ·rintro ⟨i',d,a1,a2,a3,x,a4,a5,a6⟩;exact ⟨i',d,a1,a2,a3,x,a4,by omega,a6⟩
  ·rintro ⟨i',d,a1,a2,a3,x,a4,a5,a6⟩;refine ⟨i',d,a1,a2,a3,x,a4,Or.inl ?_,a6⟩;by_cases e : i' = i
   ·subst e;exact absurd ⟨a2,by rw [a3];rfl⟩ (h d a1)
   ·omega
 unfold hostT;by_cases hp : HostP ds ls i 0 t c'
 ·rw [if_pos hp,if_pos (e.1 hp)]
 ·rw [if_neg hp,if_neg (fun h=>hp (e.2 h))]
theorem hostT_row {i : Nat} : hostT ds ls i 1024 = hostT ds ls (i + 1) 0:=by
 funext t c'
 have e : HostP ds ls i 1024 t c' ↔ HostP ds ls (i + 1) 0 t c':=by
  constructor
  ·rintro ⟨i',d,a1,a2,a3,x,a4,a5,a6⟩;exact ⟨i',d,a1,a2,a3,x,a4,by omega,a6⟩
  ·rintro ⟨i',d,a1,a2,a3,x,a4,a5,a6⟩;exact ⟨i',d,a1,a2,a3,x,a4,by omega,a6⟩
 unfold hostT;by_cases hp : HostP ds ls i 1024 t c'
 ·rw [if_pos hp,if_pos (e.1 hp)]
 ·rw [if_neg hp,if_neg (fun h=>hp (e.2 h))]
theorem hostT_step {i c cc : Nat} {d : Dv} {tq : Int × Int} (hd : ds[i]? = some d) (hk : d.kind = 1) (hp : peerF ls (i : Int) 0 = some tq) (hc : c < 1024) (hcc : (cc : Int) = d.addr * 1024 + (c : Int)) (t' : Int × Int) (c' : Nat) : hostT ds ls i (c + 1) t' c' = if t' = tq /\ c' = cc then 0 else hostT ds ls i c t' c':=by
 unfold hostT;by_cases e : t' = tq /\ c' = cc
 ·rw [if_pos e];obtain ⟨rfl,rfl⟩:=e;rw [if_pos ⟨i,d,hd,hk,hp,c,hc,Or.inr ⟨rfl,by omega⟩,hcc⟩]
 ·rw [if_neg e];have e2 : HostP ds ls i (c + 1) t' c' ↔ HostP ds ls i c t' c':=by
   constructor
   ·rintro ⟨i',d',a1,a2,a3,x,a4,a5,a6⟩;refine ⟨i',d',a1,a2,a3,x,a4,?_,a6⟩;by_cases h2 : i' = i /\ x = c
    ·obtain ⟨rfl,rfl⟩:=h2;rw [hd] at a1;cases a1;rw [hp] at a3;cases a3;exact absurd ⟨rfl,by omega⟩ e
    ·omega
   ·rintro ⟨i',d',a1,a2,a3,x,a4,a5,a6⟩;exact ⟨i',d',a1,a2,a3,x,a4,by omega,a6⟩
  by_cases hq : HostP ds ls i c t' c'
  ·rw [if_pos hq,if_pos (e2.2 hq)]
  ·rw [if_neg hq,if_neg (fun h=>hq (e2.1 h))]
def devsP (ds : List Dv) (ls : List Lk) (T : Tab) (k : Int) (i : Nat) : PutS:=fun t c=>∃ (i' : Nat) (d : Dv),i' < i /\ ds[i']? = some d /\ devP d (i' : Int) ls T k t c
theorem devsP_start : devsP ds ls T k 0 = noP:=by
 funext t c
 refine propext ⟨?_,fun h=>h.elim⟩;rintro ⟨i',d,h,_⟩;omega
theorem devsP_step {i : Nat} {d : Dv} (hd : ds[i]? = some d) : un (devsP ds ls T k i) (devP d (i : Int) ls T k) = devsP ds ls T k (i + 1):=by
 funext t c
 refine propext ⟨?_,?_⟩
 ·rintro (⟨i',d',h1,h2,h3⟩ | h)
  ·exact ⟨i',d',by omega,h2,h3⟩
  ·exact ⟨i,d,by omega,hd,h⟩
 ·rintro ⟨i',d',h1,h2,h3⟩;by_cases e : i' = i
  ·subst e;rw [hd] at h2;cases h2;exact Or.inr h3
  ·exact Or.inl ⟨i',d',by omega,h2,h3⟩
end
section
variable {ds : List Dv} {ls : List Lk} {k : Nat} {t : Int × Int} {p : Pk} {d : Dv} {i o : Int} {I J : PSet} {T : Tab}
theorem sendR_congr (h : ∀ (q : Int) (p : Pk),0 <= q -> q < portsV d.kind -> (I (i,q) p ↔ J (i,q) p)) : sendR d i I o p ↔ sendR d i J o p:=by
 unfold sendR;by_cases k2 : d.kind = 2
 ·rw [if_pos k2,if_pos k2];have hp : portsV d.kind = 4:=by rw [k2];rfl
  constructor
  ·rintro ⟨q,h0,h1,h2,h3⟩;exact ⟨q,h0,h1,(h q p h0 (by omega)).1 h2,h3⟩
  ·rintro ⟨q,h0,h1,h2,h3⟩;exact ⟨q,h0,h1,(h q p h0 (by omega)).2 h2,h3⟩
 rw [if_neg k2,if_neg k2];by_cases k3 : d.kind = 3
 ·rw [if_pos k3,if_pos k3];have hp : portsV d.kind = 2:=by rw [k3];rfl
  simp only [h 0 _ (by omega) (by omega),h 1 _ (by omega) (by omega)]
 rw [if_neg k3,if_neg k3];by_cases k4 : d.kind = 4
 ·rw [if_pos k4,if_pos k4];have hp : portsV d.kind = 2:=by rw [k4];rfl
  simp only [h 0 _ (by omega) (by omega),h 1 _ (by omega) (by omega)]
 rw [if_neg k4,if_neg k4];by_cases k5 : d.kind = 5
 ·rw [if_pos k5,if_pos k5];have hp : portsV d.kind = 2:=by rw [k5];rfl
  simp only [h 0 _ (by omega) (by omega),h 1 _ (by omega) (by omega)]
 rw [if_neg k5,if_neg k5]
def SetQ (ds : List Dv) (ls : List Lk) (k : Nat) : PSet:=fun t p=>pkOk p = true /\ SetP ds ls k t p
theorem setQ_succ (hz : netV ds ls = 0) (hp : pkOk p = true) : SetP ds ls (k + 1) t p ↔ SetP ds ls k t p ∨ ∃ (i : Nat) (d : Dv) (o : Int),ds[i]? = some d /\ peerF ls i o = some t /\ sendR d i (SetQ ds ls k) o p:=by
 have h10:=(netV_links hz).1;constructor
 ·intro h;have h' : atF ds ls (k + 1) t.1 t.2 (pkE p) = true:=h;unfold atF at h'
  split at h'
  ·rename_i hc
   rw [setF_succ] at h';rcases h' with h' | ⟨i,q,d,h1,h2,h3,h4,h5,h6⟩
   ·left
    show atF ds ls k t.1 t.2 (pkE p) = true;unfold atF;rw [if_pos hc];exact h'
   ·right
    refine ⟨i,d,(q : Int),h3,?_,?_⟩
    ·rw [h5];obtain ⟨t1,t2⟩:=t;dsimp only at hc ⊢;rw [show ((t1.toNat : Nat) : Int) = t1 by omega,show ((t2.toNat : Nat) : Int) = t2 by omega]
    ·have hi : i < 10:=by
      have:=(List.getElem?_eq_some_iff.1 h3).1;omega
     exact send_to (i:=(i : Int)) (I:=SetQ ds ls k) (F:=SetF ds ls k i) (fun q p hq hpo h=>⟨hpo,by
      show atF ds ls k (i : Int) (q : Int) (pkE p) = true;rw [atF_nat hi hq];exact h⟩) (netV_devsP hz d (List.mem_of_getElem? h3)) (by omega) hp h6
  ·cases h'
 ·rintro (h | ⟨i,d,o,hd,hpe,hs⟩)
  ·exact atF_up (Nat.le_succ k) _ _ _ h
  ·rw [setP_succ hz hp];refine Or.inr ⟨i,d,o,hd,hpe,?_⟩;have hi:=(List.getElem?_eq_some_iff.1 hd).1;obtain ⟨l,hl,he⟩:=peerF_of hpe;have hpl : isPl ds (i : Int) o = true:=by
    have hp:=(netV_links hz).2.2.2 l hl;rcases endOf_ends he with ⟨e,_⟩ | ⟨e,_⟩
    ·have:=hp.1;rw [e.1,e.2] at this;exact this
    ·have:=hp.2;rw [e.1,e.2] at this;exact this
   have hpo:=isPl_at hd hpl;have hf:=send_f (i:=(i : Int)) (I:=SetQ ds ls k) (F:=SetF ds ls k i) (fun q p hq h=>by
    have h' : atF ds ls k (i : Int) (q : Int) (pkE p) = true:=h.2;rw [atF_nat (by omega) hq] at h';exact h') (netV_devsP hz d (List.mem_of_getElem? hd)) hp hs
   exact send_to (i:=(i : Int)) (I:=SetP ds ls k) (F:=SetF ds ls k i) (fun q p hq _ h=>by
    show atF ds ls k (i : Int) (q : Int) (pkE p) = true;rw [atF_nat (by omega) hq];exact h) (netV_devsP hz d (List.mem_of_getElem? hd)) hpo hp hf
noncomputable def negs (T : Tab) : Nat:=(List.range 655360).countP (fun n=>decide (T (((n / 65536 : Nat) : Int),((n / 16384 % 4 : Nat) : Int)) (n % 16384) < 0))
theorem negs_le : negs T <= 655360:=by
 unfold negs;exact Nat.le_trans List.countP_le_length (by simp)
structure KInv (ds : List Dv) (ls : List Lk) (T : Tab) (k : Nat) : Prop where
 val : ∀ t c,isPl ds t.1 t.2 = true -> c < 16384 -> (T t c = -1 ∨ (0 <= T t c /\ T t c <= (k : Int)))
 set : ∀ t c (j : Nat),isPl ds t.1 t.2 = true -> c < 16384 -> j <= k -> ((0 <= T t c /\ T t c <= (j : Int)) ↔ SetP ds ls j t (pkN c))
 new : ∀ j,j < k -> ∃ t c,isPl ds t.1 t.2 = true /\ c < 16384 /\ SetP ds ls (j + 1) t (pkN c) /\ ¬ SetP ds ls j t (pkN c)
 few : k + negs T <= 655360
theorem kinv_start (hz : netV ds ls = 0) : KInv ds ls (hostT ds ls ds.length 0) 0:=by
 have key : ∀ t c,c < 16384 -> (HostP ds ls ds.length 0 t c ↔ SetP ds ls 0 t (pkN c)):=fun t c hc=>by
  rw [setP_zero hz (pkN_ok hc)];constructor
  ·rintro ⟨i,d,h1,h2,h3,x,h4,_,h5⟩;refine ⟨i,d,h1,h2,h3,?_⟩;show ((c / 1024 : Nat) : Int) = d.addr;omega
  ·rintro ⟨i,d,h1,h2,h3,h4⟩;have h4' : ((c / 1024 : Nat) : Int) = d.addr:=h4;exact ⟨i,d,h1,h2,h3,c % 1024,by omega,Or.inl (List.getElem?_eq_some_iff.1 h1).1,by omega⟩
 refine ⟨fun t c _ _=>?_,fun t c j _ hc hj=>?_,fun j hj=>by omega,by have:=negs_le (T:=hostT ds ls ds.length 0);omega⟩
 ·unfold hostT
  split
  ·exact Or.inr ⟨by omega,by omega⟩
  ·exact Or.inl rfl
 ·obtain rfl : j = 0:=by omega
  rw [<- key t c hc];unfold hostT
  split
  ·rename_i h
   exact ⟨fun _=>h,fun _=>⟨by omega,by omega⟩⟩
  ·rename_i h
   exact ⟨fun h'=>by omega,fun h'=>absurd h' h⟩
theorem kinv_sent (h : KInv ds ls T k) {c : Nat} (hc : c < 16384) (t : Int × Int) : devsP ds ls T (k : Int) ds.length t c ↔ ∃ (i : Nat) (d : Dv) (o : Int),ds[i]? = some d /\ peerF ls i o = some t /\ sendR d i (SetQ ds ls k) o (pkN c):=by
 have cg : ∀ (i : Nat) (d : Dv) (o : Int),ds[i]? = some d -> (sendR d i (wasS T (k : Int)) o (pkN c) ↔ sendR d i (SetQ ds ls k) o (pkN c)):=fun i d o hd=>sendR_congr fun q p h0 h1=>by
  have hpl:=isPl_of (q:=q.toNat) hd (by omega);rw [show ((q.toNat : Nat) : Int) = q by omega] at hpl;unfold wasS SetQ wasB;simp only [Bool.and_eq_true,decide_eq_true_eq];refine and_congr_right fun hp=>?_;rw [h.set ((i : Int),q) (codeN p) k hpl (codeN_lt hp) (Nat.le_refl _),pkN_codeN hp]
 constructor
 ·rintro ⟨i,d,_,hd,_,o,h1,h2⟩;exact ⟨i,d,o,hd,h1,(cg i d o hd).1 h2⟩
 ·rintro ⟨i,d,o,hd,h1,h2⟩;exact ⟨i,d,(List.getElem?_eq_some_iff.1 hd).1,hd,hc,o,h1,(cg i d o hd).2 h2⟩
theorem kinv_in (h : KInv ds ls T k) {c : Nat} (hpl : isPl ds t.1 t.2 = true) (hc : c < 16384) : 0 <= T t c ↔ SetP ds ls k t (pkN c):=by
 rw [<- h.set t c k hpl hc (Nat.le_refl _)];rcases h.val t c hpl hc with e | e
 ·rw [e];omega
 ·exact ⟨fun _=>e,fun h=>h.1⟩
theorem pl_small (h10 : ds.length <= 10) (hpl : isPl ds t.1 t.2 = true) : 0 <= t.1 /\ t.1 < 10 /\ 0 <= t.2 /\ t.2 < 4:=by
 have hp : portsV (kindAt ds t.1) <= 4:=by
  unfold portsV
  split <;> (try split) <;> (try split) <;> (try split) <;> omega
 unfold isPl at hpl;simp only [Bool.and_eq_true,decide_eq_true_eq] at hpl;omega
theorem kinv_step (hz : netV ds ls = 0) (h : KInv ds ls T k) {bl : (Int × Int) -> Option Nat} (ho : OnlyP ds bl) (hm : moreP bl T (devsP ds ls T (k : Int) ds.length) = true) : KInv ds ls (tabP T (k : Int) (devsP ds ls T (k : Int) ds.length)) (k + 1):=by
 have h10:=(netV_links hz).1;have sx : ∀ t c,isPl ds t.1 t.2 = true -> c < 16384 -> (SetP ds ls (k + 1) t (pkN c) ↔ 0 <= T t c ∨ devsP ds ls T (k : Int) ds.length t c):=fun t c hpl hc=>by
  rw [setQ_succ hz (pkN_ok hc),kinv_sent h hc,kinv_in h hpl hc]
 obtain ⟨t0,c0,m1,m2,m3,m4⟩:=@of_decide_eq_true _ (Classical.propDecidable _) hm;obtain ⟨b0,hb0⟩:=Option.isSome_iff_exists.1 m1;have hp0:=ho t0 b0 hb0;refine ⟨fun t c hpl hc=>?_,fun t c j hpl hc hj=>?_,fun j hj=>?_,?_⟩
 ·unfold tabP
  split
  ·exact Or.inr ⟨by omega,by omega⟩
  ·rcases h.val t c hpl hc with e | e
   ·exact Or.inl e
   ·exact Or.inr ⟨e.1,by omega⟩
 ·by_cases hjk : j <= k
  ·rw [<- h.set t c j hpl hc hjk];unfold tabP
   split
   ·rename_i hh
    omega
   ·exact Iff.rfl
  ·obtain rfl : j = k + 1:=by omega
   rw [sx t c hpl hc];unfold tabP
   split
   ·rename_i hh
    exact ⟨fun _=>Or.inr hh.2,fun _=>⟨by omega,by omega⟩⟩
   ·rename_i hh
    constructor
    ·exact fun h'=>Or.inl h'.1
    ·intro h';rcases h.val t c hpl hc with e | e
     ·rcases h' with h' | h'
      ·omega
      ·exact absurd ⟨by omega,h'⟩ hh
     ·exact ⟨e.1,by omega⟩
 ·by_cases hjk : j < k
  ·exact h.new j hjk
  ·obtain rfl : j = k:=by omega
   refine ⟨t0,c0,hp0,m2,(sx t0 c0 hp0 m2).2 (Or.inr m4),fun h'=>?_⟩;have:=(kinv_in h hp0 m2).2 h';omega
 ·obtain ⟨a1,a2,a3,a4⟩:=pl_small h10 hp0;have e1 : ((t0.1.toNat : Nat) : Int) = t0.1:=by omega
  have e2 : ((t0.2.toNat : Nat) : Int) = t0.2:=by omega
  have hlt : negs (tabP T (k : Int) (devsP ds ls T (k : Int) ds.length)) < negs T:=by
   unfold negs;refine countP_less (fun n _ hn=>?_) (t0.1.toNat * 65536 + t0.2.toNat * 16384 + c0) (List.mem_range.2 (by omega)) ?_ ?_
   ·simp only [decide_eq_true_eq] at hn ⊢;unfold tabP at hn
    split at hn
    ·omega
    ·exact hn
   ·rw [show (t0.1.toNat * 65536 + t0.2.toNat * 16384 + c0) / 65536 = t0.1.toNat by omega,show (t0.1.toNat * 65536 + t0.2.toNat * 16384 + c0) / 16384 % 4 = t0.2.toNat by omega,show (t0.1.toNat * 65536 + t0.2.toNat * 16384 + c0) % 16384 = c0 by omega,e1,e2];exact decide_eq_true m3
   ·rw [show (t0.1.toNat * 65536 + t0.2.toNat * 16384 + c0) / 65536 = t0.1.toNat by omega,show (t0.1.toNat * 65536 + t0.2.toNat * 16384 + c0) / 16384 % 4 = t0.2.toNat by omega,show (t0.1.toNat * 65536 + t0.2.toNat * 16384 + c0) % 16384 = c0 by omega,e1,e2];refine decide_eq_false ?_;unfold tabP;rw [if_pos ⟨m3,m4⟩];omega
  have:=h.few;omega
theorem kinv_end (hz : netV ds ls = 0) (h : KInv ds ls T k) {bl : (Int × Int) -> Option Nat} (hd : ∀ t,isPl ds t.1 t.2 = true -> ∃ b,bl t = some b) (hm : moreP bl T (devsP ds ls T (k : Int) ds.length) = false) : ∀ t c,isPl ds t.1 t.2 = true -> c < 16384 -> (SetP ds ls (k + 1) t (pkN c) ↔ SetP ds ls k t (pkN c)):=by
 intro t c hpl hc;rw [setQ_succ hz (pkN_ok hc)];refine ⟨fun h'=>h'.elim id fun h'=>?_,Or.inl⟩;have hs:=(kinv_sent h hc t).2 h';rw [<- kinv_in h hpl hc];obtain ⟨b,hb⟩:=hd t hpl;have hn:=@of_decide_eq_false _ (Classical.propDecidable _) hm;exact Classical.byContradiction fun hlt=>hn ⟨t,c,by rw [hb];rfl,hc,by omega,hs⟩
theorem kinv_open (hz : netV ds ls = 0) (h : KInv ds ls T k) {i : Nat} {q : Int} {c : Nat} (hpl : isPl ds (i : Int) q = true) (hc : c < 16384) (hw : wasB T (k : Int) ((i : Int),q) c = true) : (peerF ls (i : Int) q).isSome = true:=by
 unfold wasB at hw;simp only [Bool.and_eq_true,decide_eq_true_eq] at hw;have hs:=(h.set ((i : Int),q) c k hpl hc (Nat.le_refl _)).1 hw;have key : ∀ (j : Nat),SetP ds ls j ((i : Int),q) (pkN c) -> ∃ (i' : Nat) (o : Int),peerF ls (i' : Int) o = some ((i : Int),q):=by
  intro j
  induction j with
  | zero =>
    rw [setP_zero hz (pkN_ok hc)];rintro ⟨i',d,_,_,h3,_⟩;exact ⟨i',0,h3⟩
  | succ j ih =>
    rw [setP_succ hz (pkN_ok hc)];rintro (h | ⟨i',d,o,_,h3,_⟩)
    ·exact ih h
    ·exact ⟨i',o,h3⟩
 obtain ⟨i',o,hp⟩:=key k hs;obtain ⟨l,hl,he⟩:=peerF_of hp;have hend : (endOf l (i : Int) q).isSome = true:=by
  rcases endOf_ends he with ⟨_,e⟩ | ⟨_,e⟩
  ·have e1:=congrArg Prod.fst e;have e2:=congrArg Prod.snd e;dsimp only at e1 e2;unfold endOf
   split
   ·rfl
   ·rename_i h1
    rw [if_pos (by simp [e1,e2])];rfl
  ·have e1:=congrArg Prod.fst e;have e2:=congrArg Prod.snd e;dsimp only at e1 e2;unfold endOf;rw [if_pos (by simp [e1,e2])];rfl
 have : ∀ m : List Lk,l ∈ m -> (peerF m (i : Int) q).isSome = true:=by
  intro m
  induction m with
  | nil=>intro h;cases h
  | cons x m ih =>
    intro hm;rw [peerF];rcases List.mem_cons.1 hm with rfl | hm
    ·cases hx : endOf l (i : Int) q with
     | none=>rw [hx] at hend;cases hend
     | some y=>rfl
    ·cases endOf x (i : Int) q with
     | none=>exact ih hm
     | some y=>rfl
 exact this ls hl
end
end Go.Proofs.YtppbfikimalojaaGreat
