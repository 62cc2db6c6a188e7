/-
  XAD.
-/
import Derived.Test.YtjmclcmgpaofiaaGreatXLy
import Derived.Test.YtjmclcmgpaofiaaGreatXAB
import Derived.Test.YtjmclcmgpaofiaaGreatXAC
import Derived.Laws.EntriesVeiled
import Derived.Laws.CopyRow
set_option maxHeartbeats 8000000
set_option maxRecDepth 100000
namespace Go.Proofs.YtjmclcmgpaofiaaGreat
open Tryz
open Go.RowKit
theorem Three.cells{w:World}{n:Nat}{a b c:Value}(h:Three w n a b c):w.cell? ⟨n,0,none⟩=some a /\ w.cell? ⟨n,1,none⟩=some b /\ w.cell? ⟨n,2,none⟩=some c:=h.2
theorem Three.lt{w:World}{n:Nat}{a b c:Value}(h:Three w n a b c):n<w.heap.size:=h.1
abbrev rtw(v b p:Int):Value:=.agg #[v,b,p]
theorem rx(a b:Nat)(ha:a<9223372036854775808)(hb:b<9223372036854775808):Go.bits .and .i64 (a:Int) (b:Int)=((a &&& b:Nat):Int):=by
 have e1:BitVec.ofInt 64 (a:Int)=BitVec.ofNat 64 a:=by simp
 have e2:BitVec.ofInt 64 (b:Int)=BitVec.ofNat 64 b:=by simp
 have hle:a &&& b<=a:=Nat.and_le_left;have hm:(BitVec.ofNat 64 a &&& BitVec.ofNat 64 b).toNat=a &&& b:=by
  simp[BitVec.toNat_and,Nat.mod_eq_of_lt (show a<18446744073709551616 by omega),Nat.mod_eq_of_lt (show b<18446744073709551616 by omega)]
 show IntKind.i64.wrap ((BitVec.ofInt 64 (a:Int) &&& BitVec.ofInt 64 (b:Int)).toNat:Int)=_;rw[e1,e2,hm,IntWalk.i64_in _ (by omega)]
theorem gE(v:Int)(k m:Nat)(h0:0<=v)(h1:v<16)(hm:m+1=2 ^ k)(hk:m<16):(Go.bits .and .i64 v (m:Int) == 0)=decide (v % ((m+1:Nat):Int)=0):=by
 obtain⟨n,rfl⟩:∃n:Nat,v=n:=⟨v.toNat,by omega⟩;rw[rx n m (by omega) (by omega)];have e:m=2 ^ k-1:=by omega
 have e2:n &&& m=n % (m+1):=by rw[hm,e,Nat.and_two_pow_sub_one_eq_mod]
 rw[e2,Bool.eq_iff_iff];simp
theorem iy(v p:Int)(w:World):CB 156 #[rtw v 4 p] w (.int .i64 0):=by
 go_enter func156,ntmps156;go_wp2_with fail;go_ret;exact⟨rfl,by go_grown⟩
theorem gG(v b p d m n:Int)(w:World)(hm:(m=0 /\ n=1)\/(m=1 /\ n=2)\/(m=2 /\ n=4)\/(m=3 /\ n=8)\/(m=4 /\ n=16))(BE:Hid (∀w,CB 156 #[rtw v b p] w (.int .i64 m)))(E:Hid (takesB ⟨v,b,p⟩ d=(d / n == v / n))):CB 206 #[rtw v b p,d] w (.bool (takesB ⟨v,b,p⟩ d)):=by
 have D0:=(Below.al (Below.refl w w) (.cells #[v,b,p] 123)).drew;have T0:=(du w (.int .i64 v) (.int .i64 b) (.int .i64 p) 123).drew;rcases hm with⟨rfl,rfl⟩|⟨rfl,rfl⟩|⟨rfl,rfl⟩|⟨rfl,rfl⟩|⟨rfl,rfl⟩
 all_goals
  go_enter func206,ntmps206;go_wp2_with fail;go_region_held3 (λw'=>w'.cell? ⟨w,0,none⟩=some (.int .i64 v) /\ w'.cell? ⟨w,1,none⟩=some (.int .i64 b) /\ w'.cell? ⟨w,2,none⟩=some (.int .i64 p)) (exact Three.cells (n:=w.heap.size) ‹_›)
   (first|(go_at_call 156;refine(BE.out _).mono ?_;rintro e wz⟨rfl,hbz⟩;have Dz:=chn hbz ‹_›;have Pz:=dH (n:=w.heap.size) hbz (Three.lt ‹_›) ‹_›;clear hbz))
  go_wp2_with fail;go_ret;exact⟨by rw[E.out];simp,by assumption⟩
theorem iz(v p:Int)(w:World):CB 156 #[rtw v 3 p] w (.int .i64 1):=by
 go_enter func156,ntmps156;go_wp2_with fail;go_ret;exact⟨rfl,by go_grown⟩
theorem iA(v p:Int)(w:World):CB 156 #[rtw v 2 p] w (.int .i64 2):=by
 go_enter func156,ntmps156;go_wp2_with fail;go_ret;exact⟨rfl,by go_grown⟩
theorem iB(v p:Int)(w:World):CB 156 #[rtw v 1 p] w (.int .i64 3):=by
 go_enter func156,ntmps156;go_wp2_with fail;go_ret;exact⟨rfl,by go_grown⟩
theorem iC(v p:Int)(w:World):CB 156 #[rtw v 0 p] w (.int .i64 4):=by
 go_enter func156,ntmps156;go_wp2_with fail;go_ret;exact⟨rfl,by go_grown⟩
theorem isr_a(v b p:Int)(w:World)(h:decide (0<=b)=false):CB 124 #[rtw v b p] w (.bool false):=by
 have D0:=(Below.al (Below.refl w w) (.cells #[v,b,p] 123)).drew;have T0:=(du w (.int .i64 v) (.int .i64 b) (.int .i64 p) 123).drew;go_enter func124,ntmps124;go_wp2_with fail;refine wp_region_held_drew (S:=(λw'=>w'.cell? ⟨w,0,none⟩=some (.int .i64 v) /\ w'.cell? ⟨w,1,none⟩=some (.int .i64 b) /\ w'.cell? ⟨w,2,none⟩=some (.int .i64 p))) (by kernel_rfl) (Three.cells (n:=w.heap.size) ‹_›) (λhHeld=>?_);refine tk 0 ?_;try simp only[ly]
 refine tk 1 ?_;try simp only[ly]
 refine tk 2 ?_;try simp only[ly]
 refine tk 3 ?_;try simp only[ly]
 refine tk0 4 ?_;try simp only[ly]
 refine tk0 5 ?_;try simp only[ly]
 refine tk0 6 ?_;try simp only[ly]
 refine tk 7 ?_;try simp only[ly]
 refine tk 8 ?_;try simp only[ly]
 refine tk0 9 ?_;try simp only[ly]
 refine tk0 10 ?_;try simp only[ly]
 refine tk0 11 ?_;try simp only[ly]
 refine tk 12 ?_;try simp only[ly]
 refine tk 13 ?_;try simp only[ly]
 refine tk0 14 ?_;try simp only[ly]
 refine tk0 15 ?_;try simp only[ly]
 refine tk0 16 ?_;try simp only[ly]
 refine tk 17 ?_;try simp only[ly]
 refine tk 18 ?_;try simp only[ly]
 refine tk0 19 ?_;try simp only[ly]
 refine tk0 20 ?_;try simp only[ly]
 refine tk0 21 ?_;try simp only[ly]
 refine tk0 22 ?_;try simp only[ly]
 refine tk0 23 ?_;try simp only[ly]
 refine tk0 24 ?_;try simp only[ly]
 refine tk0 25 ?_;try simp only[ly]
 refine tk0 26 ?_;try simp only[ly]
 refine tk 27 ?_;try simp only[ly]
 refine tk 28 ?_;try simp only[ly]
 refine tk0 29 ?_;try simp only[ly]
 refine tk0 30 ?_;try simp only[ly]
 refine tk0 31 ?_;try simp only[ly]
 refine tk 32 ?_;try simp only[ly]
 refine tk 33 ?_;try simp only[ly]
 refine tk0 34 ?_;try simp only[ly]
 refine tk0 35 ?_;try simp only[ly]
 refine tk0 36 ?_;try simp only[ly]
 refine tk 37 ?_;try simp only[ly]
 refine tk 38 ?_;try simp only[ly]
 refine wpAnyH_done (by kernel_rfl) ?_ _
 go_wp2
 go_ret;exact⟨by simp,by assumption⟩
theorem isr_b(v b p:Int)(w:World)(h:decide (0<=b)=true)(h1:decide (b<=4)=false):CB 124 #[rtw v b p] w (.bool false):=by
 have D0:=(Below.al (Below.refl w w) (.cells #[v,b,p] 123)).drew;have T0:=(du w (.int .i64 v) (.int .i64 b) (.int .i64 p) 123).drew;go_enter func124,ntmps124;go_wp2_with fail;refine wp_region_held_drew (S:=(λw'=>w'.cell? ⟨w,0,none⟩=some (.int .i64 v) /\ w'.cell? ⟨w,1,none⟩=some (.int .i64 b) /\ w'.cell? ⟨w,2,none⟩=some (.int .i64 p))) (by kernel_rfl) (Three.cells (n:=w.heap.size) ‹_›) (λhHeld=>?_);refine tk 0 ?_;try simp only[ly]
 refine tk 1 ?_;try simp only[ly]
 refine tk 2 ?_;try simp only[ly]
 refine tk 3 ?_;try simp only[ly]
 refine tk 4 ?_;try simp only[ly]
 refine tk 5 ?_;try simp only[ly]
 refine tk 6 ?_;try simp only[ly]
 refine tk 7 ?_;try simp only[ly]
 refine tk 8 ?_;try simp only[ly]
 refine tk0 9 ?_;try simp only[ly]
 refine tk0 10 ?_;try simp only[ly]
 refine tk0 11 ?_;try simp only[ly]
 refine tk 12 ?_;try simp only[ly]
 refine tk 13 ?_;try simp only[ly]
 refine tk0 14 ?_;try simp only[ly]
 refine tk0 15 ?_;try simp only[ly]
 refine tk0 16 ?_;try simp only[ly]
 refine tk 17 ?_;try simp only[ly]
 refine tk 18 ?_;try simp only[ly]
 refine tk0 19 ?_;try simp only[ly]
 refine tk0 20 ?_;try simp only[ly]
 refine tk0 21 ?_;try simp only[ly]
 refine tk0 22 ?_;try simp only[ly]
 refine tk0 23 ?_;try simp only[ly]
 refine tk0 24 ?_;try simp only[ly]
 refine tk0 25 ?_;try simp only[ly]
 refine tk0 26 ?_;try simp only[ly]
 refine tk 27 ?_;try simp only[ly]
 refine tk 28 ?_;try simp only[ly]
 refine tk0 29 ?_;try simp only[ly]
 refine tk0 30 ?_;try simp only[ly]
 refine tk0 31 ?_;try simp only[ly]
 refine tk 32 ?_;try simp only[ly]
 refine tk 33 ?_;try simp only[ly]
 refine tk0 34 ?_;try simp only[ly]
 refine tk0 35 ?_;try simp only[ly]
 refine tk0 36 ?_;try simp only[ly]
 refine tk 37 ?_;try simp only[ly]
 refine tk 38 ?_;try simp only[ly]
 refine wpAnyH_done (by kernel_rfl) ?_ _
 go_wp2
 go_ret;exact⟨by simp,by assumption⟩
theorem isr_c(v b p:Int)(w:World)(h:decide (0<=b)=true)(h1:decide (b<=4)=true)(h2:decide (0<=v)=false):CB 124 #[rtw v b p] w (.bool false):=by
 have D0:=(Below.al (Below.refl w w) (.cells #[v,b,p] 123)).drew;have T0:=(du w (.int .i64 v) (.int .i64 b) (.int .i64 p) 123).drew;go_enter func124,ntmps124;go_wp2_with fail;refine wp_region_held_drew (S:=(λw'=>w'.cell? ⟨w,0,none⟩=some (.int .i64 v) /\ w'.cell? ⟨w,1,none⟩=some (.int .i64 b) /\ w'.cell? ⟨w,2,none⟩=some (.int .i64 p))) (by kernel_rfl) (Three.cells (n:=w.heap.size) ‹_›) (λhHeld=>?_);refine tk 0 ?_;try simp only[ly]
 refine tk 1 ?_;try simp only[ly]
 refine tk 2 ?_;try simp only[ly]
 refine tk 3 ?_;try simp only[ly]
 refine tk 4 ?_;try simp only[ly]
 refine tk 5 ?_;try simp only[ly]
 refine tk 6 ?_;try simp only[ly]
 refine tk 7 ?_;try simp only[ly]
 refine tk 8 ?_;try simp only[ly]
 refine tk 9 ?_;try simp only[ly]
 refine tk 10 ?_;try simp only[ly]
 refine tk 11 ?_;try simp only[ly]
 refine tk 12 ?_;try simp only[ly]
 refine tk 13 ?_;try simp only[ly]
 refine tk0 14 ?_;try simp only[ly]
 refine tk0 15 ?_;try simp only[ly]
 refine tk0 16 ?_;try simp only[ly]
 refine tk 17 ?_;try simp only[ly]
 refine tk 18 ?_;try simp only[ly]
 refine tk0 19 ?_;try simp only[ly]
 refine tk0 20 ?_;try simp only[ly]
 refine tk0 21 ?_;try simp only[ly]
 refine tk0 22 ?_;try simp only[ly]
 refine tk0 23 ?_;try simp only[ly]
 refine tk0 24 ?_;try simp only[ly]
 refine tk0 25 ?_;try simp only[ly]
 refine tk0 26 ?_;try simp only[ly]
 refine tk 27 ?_;try simp only[ly]
 refine tk 28 ?_;try simp only[ly]
 refine tk0 29 ?_;try simp only[ly]
 refine tk0 30 ?_;try simp only[ly]
 refine tk0 31 ?_;try simp only[ly]
 refine tk 32 ?_;try simp only[ly]
 refine tk 33 ?_;try simp only[ly]
 refine tk0 34 ?_;try simp only[ly]
 refine tk0 35 ?_;try simp only[ly]
 refine tk0 36 ?_;try simp only[ly]
 refine tk 37 ?_;try simp only[ly]
 refine tk 38 ?_;try simp only[ly]
 refine wpAnyH_done (by kernel_rfl) ?_ _
 go_wp2
 go_ret;exact⟨by simp,by assumption⟩
theorem isr_d(v b p:Int)(w:World)(h:decide (0<=b)=true)(h1:decide (b<=4)=true)(h2:decide (0<=v)=true)(h3:decide (v<16)=false):CB 124 #[rtw v b p] w (.bool false):=by
 have D0:=(Below.al (Below.refl w w) (.cells #[v,b,p] 123)).drew;have T0:=(du w (.int .i64 v) (.int .i64 b) (.int .i64 p) 123).drew;go_enter func124,ntmps124;go_wp2_with fail;refine wp_region_held_drew (S:=(λw'=>w'.cell? ⟨w,0,none⟩=some (.int .i64 v) /\ w'.cell? ⟨w,1,none⟩=some (.int .i64 b) /\ w'.cell? ⟨w,2,none⟩=some (.int .i64 p))) (by kernel_rfl) (Three.cells (n:=w.heap.size) ‹_›) (λhHeld=>?_);refine tk 0 ?_;try simp only[ly]
 refine tk 1 ?_;try simp only[ly]
 refine tk 2 ?_;try simp only[ly]
 refine tk 3 ?_;try simp only[ly]
 refine tk 4 ?_;try simp only[ly]
 refine tk 5 ?_;try simp only[ly]
 refine tk 6 ?_;try simp only[ly]
 refine tk 7 ?_;try simp only[ly]
 refine tk 8 ?_;try simp only[ly]
 refine tk 9 ?_;try simp only[ly]
 refine tk 10 ?_;try simp only[ly]
 refine tk 11 ?_;try simp only[ly]
 refine tk 12 ?_;try simp only[ly]
 refine tk 13 ?_;try simp only[ly]
 refine tk 14 ?_;try simp only[ly]
 refine tk 15 ?_;try simp only[ly]
 refine tk 16 ?_;try simp only[ly]
 refine tk 17 ?_;try simp only[ly]
 refine tk 18 ?_;try simp only[ly]
 refine tk0 19 ?_;try simp only[ly]
 refine tk0 20 ?_;try simp only[ly]
 refine tk0 21 ?_;try simp only[ly]
 refine tk0 22 ?_;try simp only[ly]
 refine tk0 23 ?_;try simp only[ly]
 refine tk0 24 ?_;try simp only[ly]
 refine tk0 25 ?_;try simp only[ly]
 refine tk0 26 ?_;try simp only[ly]
 refine tk 27 ?_;try simp only[ly]
 refine tk 28 ?_;try simp only[ly]
 refine tk0 29 ?_;try simp only[ly]
 refine tk0 30 ?_;try simp only[ly]
 refine tk0 31 ?_;try simp only[ly]
 refine tk 32 ?_;try simp only[ly]
 refine tk 33 ?_;try simp only[ly]
 refine tk0 34 ?_;try simp only[ly]
 refine tk0 35 ?_;try simp only[ly]
 refine tk0 36 ?_;try simp only[ly]
 refine tk 37 ?_;try simp only[ly]
 refine tk 38 ?_;try simp only[ly]
 refine wpAnyH_done (by kernel_rfl) ?_ _
 go_wp2
 go_ret;exact⟨by simp,by assumption⟩
theorem gH(v b p m n:Int)(w:World)(h0:decide (0≤b)=true)(h1:decide (b≤4)=true)(h2:decide (0<=v)=true)(h3:decide (v<16)=true)(hm:(m=0 /\ n=1)\/(m=1 /\ n=2)\/(m=2 /\ n=4)\/(m=3 /\ n=8)\/(m=4 /\ n=16))(BE:Hid (∀w,CB 156 #[rtw v b p] w (.int .i64 m)))(h4:(Go.bits .and .i64 v (IntKind.i64.wrap (IntKind.i64.wrap n-1)) == 0)=false):CB 124 #[rtw v b p] w (.bool false):=by
 have D0:=(Below.al (Below.refl w w) (.cells #[v,b,p] 123)).drew;have T0:=(du w (.int .i64 v) (.int .i64 b) (.int .i64 p) 123).drew;rcases hm with⟨rfl,rfl⟩|⟨rfl,rfl⟩|⟨rfl,rfl⟩|⟨rfl,rfl⟩|⟨rfl,rfl⟩
 all_goals
  go_enter func124,ntmps124;go_wp2_with fail;refine wp_region_held_drew (S:=(λw'=>w'.cell? ⟨w,0,none⟩=some (.int .i64 v) /\ w'.cell? ⟨w,1,none⟩=some (.int .i64 b) /\ w'.cell? ⟨w,2,none⟩=some (.int .i64 p))) (by kernel_rfl) (Three.cells (n:=w.heap.size) ‹_›) (λhHeld=>?_);refine tk 0 ?_;try simp only[ly]
  refine tk 1 ?_;try simp only[ly]
  refine tk 2 ?_;try simp only[ly]
  refine tk 3 ?_;try simp only[ly]
  refine tk 4 ?_;try simp only[ly]
  refine tk 5 ?_;try simp only[ly]
  refine tk 6 ?_;try simp only[ly]
  refine tk 7 ?_;try simp only[ly]
  refine tk 8 ?_;try simp only[ly]
  refine tk 9 ?_;try simp only[ly]
  refine tk 10 ?_;try simp only[ly]
  refine tk 11 ?_;try simp only[ly]
  refine tk 12 ?_;try simp only[ly]
  refine tk 13 ?_;try simp only[ly]
  refine tk 14 ?_;try simp only[ly]
  refine tk 15 ?_;try simp only[ly]
  refine tk 16 ?_;try simp only[ly]
  refine tk 17 ?_;try simp only[ly]
  refine tk 18 ?_;try simp only[ly]
  refine tk 19 ?_;try simp only[ly]
  refine tk 20 ?_;try simp only[ly]
  refine tk 21 ?_;try simp only[ly]
  refine rd 22 (λK hK=>?_);go_simp;refine(BE.out _).mono ?_;rintro e wz⟨rfl,hbz⟩;have Dz:=chn hbz ‹_›;have Pz:=dH (n:=w.heap.size) hbz (Three.lt ‹_›) ‹_›;clear hbz;try go_wp2_with fail
  clear hHeld;refine hK.out _ _ (Three.cells (n:=w.heap.size) ‹_›) (λhHeld=>?_);clear hK K;try simp only[ly]
  refine tk 23 ?_;try simp only[ly]
  refine tk 24 ?_;try simp only[ly]
  refine tk 25 ?_;try simp only[ly]
  refine tk 26 ?_;try simp only[ly]
  refine tk 27 ?_;try simp only[ly]
  refine tk 28 ?_;try simp only[ly]
  refine tk0 29 ?_;try simp only[ly]
  refine tk0 30 ?_;try simp only[ly]
  refine tk0 31 ?_;try simp only[ly]
  refine tk 32 ?_;try simp only[ly]
  refine tk 33 ?_;try simp only[ly]
  refine tk0 34 ?_;try simp only[ly]
  refine tk0 35 ?_;try simp only[ly]
  refine tk0 36 ?_;try simp only[ly]
  refine tk 37 ?_;try simp only[ly]
  refine tk 38 ?_;try simp only[ly]
  refine wpAnyH_done (by kernel_rfl) ?_ _
  go_wp2
  go_ret;exact⟨by simp,by assumption⟩
theorem gI(v b p m n:Int)(w:World)(h0:decide (0≤b)=true)(h1:decide (b≤4)=true)(h2:decide (0<=v)=true)(h3:decide (v<16)=true)(hm:(m=0 /\ n=1)\/(m=1 /\ n=2)\/(m=2 /\ n=4)\/(m=3 /\ n=8)\/(m=4 /\ n=16))(BE:Hid (∀w,CB 156 #[rtw v b p] w (.int .i64 m)))(h4:(Go.bits .and .i64 v (IntKind.i64.wrap (IntKind.i64.wrap n-1)) == 0)=true)(h5:decide (0<=p)=false):CB 124 #[rtw v b p] w (.bool false):=by
 have D0:=(Below.al (Below.refl w w) (.cells #[v,b,p] 123)).drew;have T0:=(du w (.int .i64 v) (.int .i64 b) (.int .i64 p) 123).drew;rcases hm with⟨rfl,rfl⟩|⟨rfl,rfl⟩|⟨rfl,rfl⟩|⟨rfl,rfl⟩|⟨rfl,rfl⟩
 all_goals
  go_enter func124,ntmps124;go_wp2_with fail;refine wp_region_held_drew (S:=(λw'=>w'.cell? ⟨w,0,none⟩=some (.int .i64 v) /\ w'.cell? ⟨w,1,none⟩=some (.int .i64 b) /\ w'.cell? ⟨w,2,none⟩=some (.int .i64 p))) (by kernel_rfl) (Three.cells (n:=w.heap.size) ‹_›) (λhHeld=>?_);refine tk 0 ?_;try simp only[ly]
  refine tk 1 ?_;try simp only[ly]
  refine tk 2 ?_;try simp only[ly]
  refine tk 3 ?_;try simp only[ly]
  refine tk 4 ?_;try simp only[ly]
  refine tk 5 ?_;try simp only[ly]
  refine tk 6 ?_;try simp only[ly]
  refine tk 7 ?_;try simp only[ly]
  refine tk 8 ?_;try simp only[ly]
  refine tk 9 ?_;try simp only[ly]
  refine tk 10 ?_;try simp only[ly]
  refine tk 11 ?_;try simp only[ly]
  refine tk 12 ?_;try simp only[ly]
  refine tk 13 ?_;try simp only[ly]
  refine tk 14 ?_;try simp only[ly]
  refine tk 15 ?_;try simp only[ly]
  refine tk 16 ?_;try simp only[ly]
  refine tk 17 ?_;try simp only[ly]
  refine tk 18 ?_;try simp only[ly]
  refine tk 19 ?_;try simp only[ly]
  refine tk 20 ?_;try simp only[ly]
  refine tk 21 ?_;try simp only[ly]
  refine rd 22 (λK hK=>?_);go_simp;refine(BE.out _).mono ?_;rintro e wz⟨rfl,hbz⟩;have Dz:=chn hbz ‹_›;have Pz:=dH (n:=w.heap.size) hbz (Three.lt ‹_›) ‹_›;clear hbz;try go_wp2_with fail
  clear hHeld;refine hK.out _ _ (Three.cells (n:=w.heap.size) ‹_›) (λhHeld=>?_);clear hK K;try simp only[ly]
  refine tk 23 ?_;try simp only[ly]
  refine tk 24 ?_;try simp only[ly]
  refine tk 25 ?_;try simp only[ly]
  refine tk 26 ?_;try simp only[ly]
  refine tk 27 ?_;try simp only[ly]
  refine tk 28 ?_;try simp only[ly]
  refine tk 29 ?_;try simp only[ly]
  refine tk 30 ?_;try simp only[ly]
  refine tk 31 ?_;try simp only[ly]
  refine tk 32 ?_;try simp only[ly]
  refine tk 33 ?_;try simp only[ly]
  refine tk0 34 ?_;try simp only[ly]
  refine tk0 35 ?_;try simp only[ly]
  refine tk0 36 ?_;try simp only[ly]
  refine tk 37 ?_;try simp only[ly]
  refine tk 38 ?_;try simp only[ly]
  refine wpAnyH_done (by kernel_rfl) ?_ _
  go_wp2
  go_ret;exact⟨by simp,by assumption⟩
theorem gJ(v b p m n:Int)(w:World)(h0:decide (0≤b)=true)(h1:decide (b≤4)=true)(h2:decide (0<=v)=true)(h3:decide (v<16)=true)(hm:(m=0 /\ n=1)\/(m=1 /\ n=2)\/(m=2 /\ n=4)\/(m=3 /\ n=8)\/(m=4 /\ n=16))(BE:Hid (∀w,CB 156 #[rtw v b p] w (.int .i64 m)))(h4:(Go.bits .and .i64 v (IntKind.i64.wrap (IntKind.i64.wrap n-1)) == 0)=true)(h5:decide (0<=p)=true):CB 124 #[rtw v b p] w (.bool (decide (p<4))):=by
 have D0:=(Below.al (Below.refl w w) (.cells #[v,b,p] 123)).drew;have T0:=(du w (.int .i64 v) (.int .i64 b) (.int .i64 p) 123).drew;rcases hm with⟨rfl,rfl⟩|⟨rfl,rfl⟩|⟨rfl,rfl⟩|⟨rfl,rfl⟩|⟨rfl,rfl⟩
 all_goals
  go_enter func124,ntmps124;go_wp2_with fail;refine wp_region_held_drew (S:=(λw'=>w'.cell? ⟨w,0,none⟩=some (.int .i64 v) /\ w'.cell? ⟨w,1,none⟩=some (.int .i64 b) /\ w'.cell? ⟨w,2,none⟩=some (.int .i64 p))) (by kernel_rfl) (Three.cells (n:=w.heap.size) ‹_›) (λhHeld=>?_);refine tk 0 ?_;try simp only[ly]
  refine tk 1 ?_;try simp only[ly]
  refine tk 2 ?_;try simp only[ly]
  refine tk 3 ?_;try simp only[ly]
  refine tk 4 ?_;try simp only[ly]
  refine tk 5 ?_;try simp only[ly]
  refine tk 6 ?_;try simp only[ly]
  refine tk 7 ?_;try simp only[ly]
  refine tk 8 ?_;try simp only[ly]
  refine tk 9 ?_;try simp only[ly]
  refine tk 10 ?_;try simp only[ly]
  refine tk 11 ?_;try simp only[ly]
  refine tk 12 ?_;try simp only[ly]
  refine tk 13 ?_;try simp only[ly]
  refine tk 14 ?_;try simp only[ly]
  refine tk 15 ?_;try simp only[ly]
  refine tk 16 ?_;try simp only[ly]
  refine tk 17 ?_;try simp only[ly]
  refine tk 18 ?_;try simp only[ly]
  refine tk 19 ?_;try simp only[ly]
  refine tk 20 ?_;try simp only[ly]
  refine tk 21 ?_;try simp only[ly]
  refine rd 22 (λK hK=>?_);go_simp;refine(BE.out _).mono ?_;rintro e wz⟨rfl,hbz⟩;have Dz:=chn hbz ‹_›;have Pz:=dH (n:=w.heap.size) hbz (Three.lt ‹_›) ‹_›;clear hbz;try go_wp2_with fail
  clear hHeld;refine hK.out _ _ (Three.cells (n:=w.heap.size) ‹_›) (λhHeld=>?_);clear hK K;try simp only[ly]
  refine tk 23 ?_;try simp only[ly]
  refine tk 24 ?_;try simp only[ly]
  refine tk 25 ?_;try simp only[ly]
  refine tk 26 ?_;try simp only[ly]
  refine tk 27 ?_;try simp only[ly]
  refine tk 28 ?_;try simp only[ly]
  refine tk 29 ?_;try simp only[ly]
  refine tk 30 ?_;try simp only[ly]
  refine tk 31 ?_;try simp only[ly]
  refine tk 32 ?_;try simp only[ly]
  refine tk 33 ?_;try simp only[ly]
  refine tk 34 ?_;try simp only[ly]
  refine tk 35 ?_;try simp only[ly]
  refine tk 36 ?_;try simp only[ly]
  refine tk 37 ?_;try simp only[ly]
  refine tk 38 ?_;try simp only[ly]
  refine wpAnyH_done (by kernel_rfl) ?_ _
  go_wp2
  go_ret;exact⟨by simp,by assumption⟩
theorem isr_0(v p:Int)(w:World)(h2:decide (0<=v)=true)(h3:decide (v<16)=true):CB 124 #[rtw v 4 p] w (.bool (isR ⟨v,4,p⟩)):=by
 have hm:=gE v 0 0 (of_decide_eq_true h2) (of_decide_eq_true h3) (by decide) (by decide);have e:isR ⟨v,4,p⟩=((Go.bits .and .i64 v (IntKind.i64.wrap (IntKind.i64.wrap 1-1)) == 0)&&decide (0<=p)&&decide (p<4)):=by
  rw[show IntKind.i64.wrap (IntKind.i64.wrap 1-1)=((0:Nat):Int)from rfl,hm];show(decide ((0:Int)<=4)&&decide ((4:Int)<=4)&&decide (0<=v)&&decide (v<16)&&decide (v % 1=0)&&decide (0<=p)&&decide (p<4))=(decide (v % 1=0)&&decide (0<=p)&&decide (p<4));rw[h2,h3];simp
 rw[e];cases h4:(Go.bits .and .i64 v (IntKind.i64.wrap (IntKind.i64.wrap 1-1)) == 0)
 ·exact gH v 4 p 0 1 w rfl rfl h2 h3 (by simp) (λw=>iy v p w) h4
 cases h5:decide (0<=p)
 ·exact gI v 4 p 0 1 w rfl rfl h2 h3 (by simp) (λw=>iy v p w) h4 h5
 ·exact gJ v 4 p 0 1 w rfl rfl h2 h3 (by simp) (λw=>iy v p w) h4 h5
theorem isr_1(v p:Int)(w:World)(h2:decide (0<=v)=true)(h3:decide (v<16)=true):CB 124 #[rtw v 3 p] w (.bool (isR ⟨v,3,p⟩)):=by
 have hm:=gE v 1 1 (of_decide_eq_true h2) (of_decide_eq_true h3) (by decide) (by decide);have e:isR ⟨v,3,p⟩=((Go.bits .and .i64 v (IntKind.i64.wrap (IntKind.i64.wrap 2-1)) == 0)&&decide (0<=p)&&decide (p<4)):=by
  rw[show IntKind.i64.wrap (IntKind.i64.wrap 2-1)=((1:Nat):Int)from rfl,hm];show(decide ((0:Int)<=3)&&decide ((3:Int)<=4)&&decide (0<=v)&&decide (v<16)&&decide (v % 2=0)&&decide (0<=p)&&decide (p<4))=(decide (v % 2=0)&&decide (0<=p)&&decide (p<4));rw[h2,h3];simp
 rw[e];cases h4:(Go.bits .and .i64 v (IntKind.i64.wrap (IntKind.i64.wrap 2-1)) == 0)
 ·exact gH v 3 p 1 2 w rfl rfl h2 h3 (by simp) (λw=>iz v p w) h4
 cases h5:decide (0<=p)
 ·exact gI v 3 p 1 2 w rfl rfl h2 h3 (by simp) (λw=>iz v p w) h4 h5
 ·exact gJ v 3 p 1 2 w rfl rfl h2 h3 (by simp) (λw=>iz v p w) h4 h5
theorem isr_2(v p:Int)(w:World)(h2:decide (0<=v)=true)(h3:decide (v<16)=true):CB 124 #[rtw v 2 p] w (.bool (isR ⟨v,2,p⟩)):=by
 have hm:=gE v 2 3 (of_decide_eq_true h2) (of_decide_eq_true h3) (by decide) (by decide);have e:isR ⟨v,2,p⟩=((Go.bits .and .i64 v (IntKind.i64.wrap (IntKind.i64.wrap 4-1)) == 0)&&decide (0<=p)&&decide (p<4)):=by
  rw[show IntKind.i64.wrap (IntKind.i64.wrap 4-1)=((3:Nat):Int)from rfl,hm];show(decide ((0:Int)<=2)&&decide ((2:Int)<=4)&&decide (0<=v)&&decide (v<16)&&decide (v % 4=0)&&decide (0<=p)&&decide (p<4))=(decide (v % 4=0)&&decide (0<=p)&&decide (p<4));rw[h2,h3];simp
 rw[e];cases h4:(Go.bits .and .i64 v (IntKind.i64.wrap (IntKind.i64.wrap 4-1)) == 0)
 ·exact gH v 2 p 2 4 w rfl rfl h2 h3 (by simp) (λw=>iA v p w) h4
 cases h5:decide (0<=p)
 ·exact gI v 2 p 2 4 w rfl rfl h2 h3 (by simp) (λw=>iA v p w) h4 h5
 ·exact gJ v 2 p 2 4 w rfl rfl h2 h3 (by simp) (λw=>iA v p w) h4 h5
theorem isr_3(v p:Int)(w:World)(h2:decide (0<=v)=true)(h3:decide (v<16)=true):CB 124 #[rtw v 1 p] w (.bool (isR ⟨v,1,p⟩)):=by
 have hm:=gE v 3 7 (of_decide_eq_true h2) (of_decide_eq_true h3) (by decide) (by decide);have e:isR ⟨v,1,p⟩=((Go.bits .and .i64 v (IntKind.i64.wrap (IntKind.i64.wrap 8-1)) == 0)&&decide (0<=p)&&decide (p<4)):=by
  rw[show IntKind.i64.wrap (IntKind.i64.wrap 8-1)=((7:Nat):Int)from rfl,hm];show(decide ((0:Int)<=1)&&decide ((1:Int)<=4)&&decide (0<=v)&&decide (v<16)&&decide (v % 8=0)&&decide (0<=p)&&decide (p<4))=(decide (v % 8=0)&&decide (0<=p)&&decide (p<4));rw[h2,h3];simp
 rw[e];cases h4:(Go.bits .and .i64 v (IntKind.i64.wrap (IntKind.i64.wrap 8-1)) == 0)
 ·exact gH v 1 p 3 8 w rfl rfl h2 h3 (by simp) (λw=>iB v p w) h4
 cases h5:decide (0<=p)
 ·exact gI v 1 p 3 8 w rfl rfl h2 h3 (by simp) (λw=>iB v p w) h4 h5
 ·exact gJ v 1 p 3 8 w rfl rfl h2 h3 (by simp) (λw=>iB v p w) h4 h5
theorem isr_4(v p:Int)(w:World)(h2:decide (0<=v)=true)(h3:decide (v<16)=true):CB 124 #[rtw v 0 p] w (.bool (isR ⟨v,0,p⟩)):=by
 have hm:=gE v 4 15 (of_decide_eq_true h2) (of_decide_eq_true h3) (by decide) (by decide);have e:isR ⟨v,0,p⟩=((Go.bits .and .i64 v (IntKind.i64.wrap (IntKind.i64.wrap 16-1)) == 0)&&decide (0<=p)&&decide (p<4)):=by
  rw[show IntKind.i64.wrap (IntKind.i64.wrap 16-1)=((15:Nat):Int)from rfl,hm];show(decide ((0:Int)<=0)&&decide ((0:Int)<=4)&&decide (0<=v)&&decide (v<16)&&decide (v % 16=0)&&decide (0<=p)&&decide (p<4))=(decide (v % 16=0)&&decide (0<=p)&&decide (p<4));rw[h2,h3];simp
 rw[e];cases h4:(Go.bits .and .i64 v (IntKind.i64.wrap (IntKind.i64.wrap 16-1)) == 0)
 ·exact gH v 0 p 4 16 w rfl rfl h2 h3 (by simp) (λw=>iC v p w) h4
 cases h5:decide (0<=p)
 ·exact gI v 0 p 4 16 w rfl rfl h2 h3 (by simp) (λw=>iC v p w) h4 h5
 ·exact gJ v 0 p 4 16 w rfl rfl h2 h3 (by simp) (λw=>iC v p w) h4 h5
theorem mc(r:Rt)(w:World):CB 124 #[rtv r] w (.bool (isR r)):=by
 obtain⟨v,b,p⟩:=r;cases h:decide (0<=b)
 ·rw[show isR ⟨v,b,p⟩=false by simp[isR,h]];exact isr_a v b p w h
 cases h1:decide (b<=4)
 ·rw[show isR ⟨v,b,p⟩=false by simp[isR,h1]];exact isr_b v b p w h h1
 cases h2:decide (0<=v)
 ·rw[show isR ⟨v,b,p⟩=false by simp[isR,h2]];exact isr_c v b p w h h1 h2
 cases h3:decide (v<16)
 ·rw[show isR ⟨v,b,p⟩=false by simp[isR,h3]];exact isr_d v b p w h h1 h2 h3
 have hb:b=0\/b=1\/b=2\/b=3\/b=4:=by
  have:=of_decide_eq_true h;have:=of_decide_eq_true h1;omega
 rcases hb with rfl|rfl|rfl|rfl|rfl
 ·exact isr_4 v p w h2 h3
 ·exact isr_3 v p w h2 h3
 ·exact isr_2 v p w h2 h3
 ·exact isr_1 v p w h2 h3
 ·exact isr_0 v p w h2 h3
theorem ry(r:Rt)(d:Int)(w:World)(hr:isR r=true):CB 206 #[rtv r,d] w (.bool (takesB r d)):=by
 have h1:=vJ hr;obtain⟨v,b,p⟩:=r;simp only at h1;have hb:b=0\/b=1\/b=2\/b=3\/b=4:=by omega
 rcases hb with rfl|rfl|rfl|rfl|rfl
 ·exact gG v 0 p d 4 16 w (by simp) (λw=>iC v p w) (by show decide (d / 16=v / 16)=_;rw[Bool.eq_iff_iff];simp)
 ·exact gG v 1 p d 3 8 w (by simp) (λw=>iB v p w) (by show decide (d / 8=v / 8)=_;rw[Bool.eq_iff_iff];simp)
 ·exact gG v 2 p d 2 4 w (by simp) (λw=>iA v p w) (by show decide (d / 4=v / 4)=_;rw[Bool.eq_iff_iff];simp)
 ·exact gG v 3 p d 1 2 w (by simp) (λw=>iz v p w) (by show decide (d / 2=v / 2)=_;rw[Bool.eq_iff_iff];simp)
 ·exact gG v 4 p d 0 1 w (by simp) (λw=>iy v p w) (by show decide (d / 1=v / 1)=_;rw[Bool.eq_iff_iff];simp)
theorem me{B:Nat}{a w:World}(h:Below B a w)(n:Nat):Below B a (w.drewN n):=h.trans ⟨rfl,rfl,rfl,Nat.le_refl _,λ_ _=>rfl⟩
def BoxR(w:World)(n:Nat)(v m p:Int):Prop:=Three w n (.int .i64 v) (.int .i64 m) (.int .i64 p) /\ w.frozen? ⟨n,0,none⟩=false /\ w.frozen? ⟨n,1,none⟩=false /\ w.frozen? ⟨n,2,none⟩=false
theorem BoxR.below{B:Nat}{W w':World}{n:Nat}{v m p:Int}(h:BoxR W n v m p)(hb:Below B W w')(hB:n<B):BoxR w' n v m p :=
 ⟨dH hb hB h.1,(hb.frozen (p:=⟨n,0,none⟩) hB).trans h.2.1,(hb.frozen (p:=⟨n,1,none⟩) hB).trans h.2.2.1,(hb.frozen (p:=⟨n,2,none⟩) hB).trans h.2.2.2⟩
theorem BoxR.alloc{w:World}{n:Nat}{v m p:Int}(h:BoxR w n v m p)(o:Obj):BoxR (w.alloc o) n v m p:=h.below ((Below.refl _ _).alloc (Nat.le_refl _) o) h.1.1
theorem mf(w:World)(v m p:Int)(t:TypeId):BoxR (w.alloc (.cells #[v,m,p] t)) w.heap.size v m p :=
 ⟨du w _ _ _ t,by simp[go_sem],by simp[go_sem],by simp[go_sem]⟩
theorem rz{w:World}{n:Nat}{v m p:Int}(h:BoxR w n v m p)(x y z:Int) :
  BoxR (((w.setCell ⟨n,0,none⟩ (.int .i64 x)).setCell ⟨n,1,none⟩ (.int .i64 y)).setCell ⟨n,2,none⟩ (.int .i64 z)) n x y z:=by
 obtain⟨⟨h0,h1,h2,h3⟩,k1,k2,k3⟩:=h;refine⟨⟨by simpa using h0,?_,?_,?_⟩,?_,?_,?_⟩ <;> simp[go_sem,h1,h2,h3,k1,k2,k3]
theorem rA(b o cap:Nat)(xs:List Rt)(d:Int)(w:World)(hb:b<w.heap.size)(hn:xs.length<=cap)(hcap:cap<=maxLen)(hr:Hid (TAt w b o xs))(h0:0<=d)(h1:d<16) :
  CB 178 #[.slice (some ⟨b,o,none⟩) xs.length cap,d] w (.tuple #[.int .i64 (ce xs d).2,.bool (!((ce xs d).1 == -1))]):=by
 unfold maxLen at hcap;have t1:decide (d<0)=false:=by simp;omega
 have t2:decide (16<=d)=false:=by simp;omega
 have D0:=Below.al (Below.refl w w) (.cells #[.int .i64 0,.int .i64 (-1),.int .i64 0] 123);have B0:=mf w 0 (-1) 0 123;clear h0 h1;go_enter func178,ntmps178;go_wp2_with fail;go_loopw[18] (λi wr=>∃k:Nat,∃v m p:Int,i=.int .i64 (k:Int) /\ k<=xs.length /\ Below w w wr /\ BoxR wr w.heap.size v m p /\ Hid (ce (xs.take k) d=(m,p))) (λi _=>xs.length-(intOf i).toNat)
 case atStart=>exact⟨0,0,-1,0,rfl,by omega,D0,B0,rfl⟩
 case round =>
  obtain⟨k,v,m,p,rfl,hk,D1,B1,hl⟩:=hrel;by_cases hlt:k<xs.length
  ·obtain⟨r,hxk⟩:∃r,xs[k]?=some r:=⟨_,List.getElem?_eq_getElem hlt⟩;obtain⟨c0,c1,c2⟩:=(hr.out.below D1 hb).at hxk;have Hd:Hid (ce (xs.take (k+1)) d=if isR r&&takesB r d&&decide (m<r.b)then(r.b,r.p)else(m,p)):=by
    show _=_;rw[vM hxk,hl.out];rfl
   have IS:Hid (∀w,CB 124 #[rtw r.v r.b r.p] w (.bool (isR r))):=λw=>mc r w;have TK:Hid (isR r=true->∀w,CB 206 #[rtw r.v r.b r.p,d] w (.bool (takesB r d))):=λh w=>ry r d w h;have D2:=Below.al D1 (.cells #[.int .i64 r.v,.int .i64 r.b,.int .i64 r.p] 123);have B2:=B1.alloc (.cells #[.int .i64 r.v,.int .i64 r.b,.int .i64 r.p] 123);have T2:=du wr (.int .i64 r.v) (.int .i64 r.b) (.int .i64 r.p) 123;have lw:=D1.size;have lb:=B1.1.1;obtain⟨⟨_,g0,g1,g2⟩,_⟩:=id B2;clear hxk hl B1 D1 hr D0 B0;generalize isR r=x at *;generalize takesB r d=y at *;generalize r.v=rv0 at *;generalize r.b=rb0 at *;generalize r.p=rp0 at *;go_wp2_with fail;refine(IS.out _).mono ?_;rintro e w3⟨rfl,hb3⟩;have D3:=chn hb3 D2;have B3:=B2.below hb3 (by simp;omega);have T3:=dH hb3 (by simp) T2;clear hb3 D2 B2 T2 g0 g1 g2 c0 c1 c2 IS;cases x
   ·go_wp2_with fail;go_roundw
    case rel=>exact⟨k+1,v,m,p,by go_num,by omega,D3,B3,by show _=_;rw[Hd.out];simp⟩
    case measure=>simp[intOf];omega
   ·obtain⟨_,z0,z1,z2⟩:=id T3;go_wp2_with fail;refine(TK.out (by trivial) _).mono ?_;rintro e w4⟨rfl,hb4⟩;have D4:=chn hb4 D3;have B4:=B3.below hb4 B3.1.1;have T4:=dH hb4 T3.1 T3;clear hb4 D3 B3 T3 z0 z1 z2 TK;cases y
    ·go_wp2_with fail;go_roundw
     case rel=>exact⟨k+1,v,m,p,by go_num,by omega,D4,B4,by show _=_;rw[Hd.out];simp⟩
     case measure=>simp[intOf];omega
    ·obtain⟨_,z0,z1,z2⟩:=id T4;obtain⟨⟨_,q0,q1,q2⟩,f0,f1,f2⟩:=id B4;cases hm:decide (m<rb0)
     ·have Hn:Hid (ce (xs.take (k+1)) d=(m,p)):=by show _=_;rw[Hd.out,hm];simp
      clear Hd;go_wp2_with fail;go_roundw
      case rel=>exact⟨k+1,v,m,p,by go_num,by omega,D4,B4,Hn⟩
      case measure=>simp[intOf];omega
     ·have Hn:Hid (ce (xs.take (k+1)) d=(rb0,rp0)):=by show _=_;rw[Hd.out,hm];simp
      clear Hd;have B5:=rz B4 rv0 rb0 rp0;have D5:=((D4.setCell (p:=⟨w,0,none⟩) (Nat.le_refl _) (.int .i64 rv0)).setCell (p:=⟨w,1,none⟩) (Nat.le_refl _) (.int .i64 rb0)).setCell (p:=⟨w,2,none⟩) (Nat.le_refl _) (.int .i64 rp0);go_wp2_with fail;go_roundw
      case rel=>exact⟨k+1,rv0,rb0,rp0,by go_num,by omega,D5,B5,Hn⟩
      case measure=>simp[intOf];omega
  ·obtain rfl:k=xs.length:=by omega
   have Hn:Hid (ce xs d=(m,p)):=by
    have:=hl.out;rw[List.take_length]at this;exact this
   obtain⟨⟨_,q0,q1,q2⟩,f0,f1,f2⟩:=id B1;go_wp2_with fail
   go_quiet (fail)
   go_wp2_with fail;go_ret2;exact⟨by rw[Hn.out];rfl,me D1 _⟩
theorem rB(A:Option Addr)(cap:Nat)(d:Int)(w:World)(h0:0<=d)(h1:d<16) :
  CB 178 #[.slice A 0 cap,d] w (.tuple #[.int .i64 0,.bool false]):=by
 have t1:decide (d<0)=false:=by simp;omega
 have t2:decide (16<=d)=false:=by simp;omega
 have D0:=Below.al (Below.refl w w) (.cells #[.int .i64 0,.int .i64 (-1),.int .i64 0] 123);have B0:=mf w 0 (-1) 0 123;clear h0 h1;go_enter func178,ntmps178;go_wp2_with fail;go_loopw[18] (λi wr=>i=.int .i64 0 /\ Below w w wr /\ BoxR wr w.heap.size 0 (-1) 0) (λi _=>0)
 case atStart=>exact⟨rfl,D0,B0⟩
 case round =>
  obtain⟨rfl,D1,B1⟩:=hrel;obtain⟨⟨_,q0,q1,q2⟩,f0,f1,f2⟩:=id B1;go_wp2_with fail
  go_quiet (fail)
  go_wp2_with fail;go_ret2;exact⟨rfl,me D1 _⟩
theorem rC(v:Value)(d:Int)(w:World)(h:d<0\/16<=d) :
  CB 178 #[v,d] w (.tuple #[.int .i64 0,.bool false]):=by
 by_cases h0:d<0
 ·have t1:decide (d<0)=true:=by simp;omega
  go_enter func178,ntmps178;go_wp2_with fail;go_ret2;exact⟨rfl,Below.refl _ _⟩
 ·have t1:decide (d<0)=false:=by simp;omega
  have t2:decide (16<=d)=true:=by simp;omega
  go_enter func178,ntmps178;go_wp2_with fail;go_ret2;exact⟨rfl,Below.refl _ _⟩
theorem mg{v:Value}{xs:List Rt}(d:Int)(w:World)(h:Routes w w v xs) :
  CB 178 #[v,d] w (.tuple #[(outN xs d),.bool (outB xs d)]):=by
 by_cases hd:0<=d /\ d<16
 ·have e1:outN xs d=(ce xs d).2:=by unfold outN;rw[if_pos hd]
  have e2:outB xs d=!((ce xs d).1 == -1):=by unfold outB;simp[hd]
  rw[e1,e2];obtain⟨A,cap,rfl,_,h1,h2,h3⟩:=h;by_cases hx:xs=[]
  ·subst hx;exact rB A cap d w hd.1 hd.2
  ·obtain⟨b,o,rfl,hb,hr⟩:=h3 hx;exact rA b o cap xs d w hb h1 h2 hr hd.1 hd.2
 ·have e1:outN xs d=0:=by unfold outN;rw[if_neg hd]
  have e2:outB xs d=false:=by
   unfold outB;by_cases h0:0<=d
   ·have:¬d<16:=λh1=>hd ⟨h0,h1⟩;simp[this]
   ·simp[h0]
  rw[e1,e2];exact rC v d w (by omega)
end Go.Proofs.YtjmclcmgpaofiaaGreat
namespace Go.Proofs.YtjmclcmgpaofiaaGreat
open Tryz
open Go.RowKit Go.Maps
def zeroP:Pk:=⟨0,0,0,0⟩
def aN(p:Pk):Pk:=⟨p.d,p.s,p.dp,p.sp⟩
def adB(n:Int):Bool:=decide (0<=n)&&decide (n<16)
def poB(n:Int):Bool:=decide (0<=n)&&decide (n<8)
def ae(p:Pk):Bool:=adB p.s&&adB p.d&&poB p.sp&&poB p.dp
inductive Lrn where
 | no
 | flow (i:Int) (p:Pk)
 | own (i port:Int) (s:Int × Int)
 | back (i:Int) (p:Pk) (b:Int)
structure Mnd where
 fl:Int × Pk->Option Unit
 ow:Int × Int->Option (Int × Int)
 bk:Int × Pk->Option Int
noncomputable def learnP (M:Mnd):Lrn->Mnd
 | .no=>M
 | .flow i p=>{ M with fl:=ch M.fl (i,p) () }
 | .own i k s=>{ M with ow:=ch M.ow (i,k) s }
 | .back i p b=>{ M with bk:=ch M.bk (i,p) b }
structure SR where
 err:Int
 port:Int
 p:Pk
 l:Lrn
def aF(e:Int):SR:=⟨e,0,zeroP,.no⟩
def aR(port:Int)(p:Pk):SR:=⟨0,port,p,.no⟩
def rulesOf(d:Dv):List Rl:=d.rules.map λr=>⟨r.ok,r.a,r.b,r.c,r.d,r.ha,r.hb,r.hc,r.hd⟩
def routesOf(d:Dv):List Rt:=d.routes.map rtOf
def fQ(d:Dv)(p:Pk):SR:=if outB (routesOf d) p.d&&letsB (rulesOf d) p.s p.d p.sp p.dp then aR (outN (routesOf d) p.d) p else aF 7
def eR(d:Dv)(i:Int)(p:Pk):SR:=if letsB (rulesOf d) p.s p.d p.sp p.dp then⟨0,1,p,.flow i p⟩else aF 7
def fR(M:Mnd)(i:Int)(p:Pk):SR:=if(M.fl (i,aN p)).isSome then aR 0 p else aF 7
def aL(M:Mnd)(i:Int)(s:Int × Int)(k:Nat):Option Nat:=if h:k<8 then(if M.ow (i,(k:Int))=some s then some k else aL M i s (k+1))else none
termination_by 8-k
def cj(d:Dv)(c:Int):Bool:=poB c&&d.pool.testBit c.toNat
def eS(d:Dv)(M:Mnd)(i:Int)(p:Pk)(c:Int):SR :=
 match aL M i (p.s,p.sp) 0 with
 | some k=>⟨0,1,⟨d.addr,p.d,(k:Int),p.dp⟩,.own i (k:Int) (p.s,p.sp)⟩
 | none=>if cj d c then(if(M.ow (i,c)).isSome then aF 6 else⟨0,1,⟨d.addr,p.d,c,p.dp⟩,.own i c (p.s,p.sp)⟩)else aF 1
def dk(d:Dv)(M:Mnd)(i:Int)(p:Pk):SR :=
 match M.ow (i,p.dp)with
 | some s=>if p.d == d.addr then aR 0 ⟨p.s,s.1,p.sp,s.2⟩else aF 7
 | none=>aF 7
def ez(d:Dv)(M:Mnd)(i:Int)(p:Pk)(c:Int):SR :=
 if p.d == d.addr then
  match M.bk (i,p)with
  | some b=>⟨0,1,⟨p.s,b,p.sp,p.dp⟩,.back i p b⟩
  | none=>if decide (0<=c)&&decide (c<(d.backs.length:Int))then⟨0,1,⟨p.s,d.backs.getD c.toNat 0,p.sp,p.dp⟩,.back i p (d.backs.getD c.toNat 0)⟩else aF 1
 else aR 1 p
def eT(d:Dv)(M:Mnd)(i:Int)(p:Pk):SR :=
 aR 0 (if M.bk (i,⟨p.d,d.addr,p.dp,p.sp⟩)=some p.s then⟨d.addr,p.d,p.sp,p.dp⟩else p)
def sendP(d:Dv)(M:Mnd)(i q:Int)(p:Pk)(c:Int):SR :=
 if d.kind=2 then fQ d p
 else if d.kind=3 then(if q=0 then eR d i p else fR M i p)
 else if d.kind=4 then(if q=0 then eS d M i p c else dk d M i p)
 else if d.kind=5 then(if q=0 then ez d M i p c else eT d M i p)
 else aF 7
structure HR where
 err:Int
 tp:Int × Int
 p:Pk
 M:Mnd
def aZ(e:Int)(M:Mnd):HR:=⟨e,(0,0),zeroP,M⟩
noncomputable def aB (ds:List Dv)(ls:List Lk)(M:Mnd)(i q:Int)(p:Pk)(c:Int):HR :=
 if isPl ds i q then
  (if ae p then
    (if(sendP (ds.getD i.toNat default) M i q p c).err=0 then
      match peerF ls i (sendP (ds.getD i.toNat default) M i q p c).port with
      | some t=>⟨0,t,(sendP (ds.getD i.toNat default) M i q p c).p,learnP M (sendP (ds.getD i.toNat default) M i q p c).l⟩
      | none=>aZ 7 M
    else aZ (sendP (ds.getD i.toNat default) M i q p c).err M)
  else aZ 1 M)
 else aZ 4 M
structure Mp where
 z:Nat
 pre:List Value
 post:List Value
 ty:TypeId
 B:Nat
 f:Nat
 o:Nat
 k:Nat
 A:Option Addr
 cap:Nat
 L:Option Addr
 e9:Nat
structure MemAt(w:World)(m:Mp)(ds:List Dv)(ls:List Lk)(n:Nat)(M:Mnd):Prop where
 blk:w.heap[m.B]?=some (.cells (m.pre++([Value.slice m.A ds.length m.cap,Value.slice m.L ls.length m.e9,Value.map (some m.f),Value.map (some m.o),Value.map (some m.k)]++m.post)).toArray m.ty (0,0)) /\ m.pre.length=m.z
 devs:Devs w w (.slice m.A ds.length m.cap) ds
 links:Links w w (.slice m.L ls.length m.e9) ls
 fl:MapAt eQ cO w m.f n M.fl
 ow:MapAt jQ jS w m.o n M.ow
 bk:MapAt eQ jR w m.k n M.bk
 fo:m.f≠m.o
 fk:m.f≠m.k
 ok:m.o≠m.k
structure HK(m:Mp)(w w':World):Prop where
 os:w'.os=w.os
 tape:w'.tape=w.tape
 output:w'.output=w.output
 size:w.heap.size<=w'.heap.size
 block:∀b,b<w.heap.size->b≠m.f->b≠m.o->b≠m.k->w'.heap[b]?=w.heap[b]?
structure CK(w w':World):Prop where
 size:w.heap.size<=w'.heap.size
 block:∀b,(∀es c,w.heap[b]?≠some (.map es c))->b<w.heap.size->w'.heap[b]?=w.heap[b]?
section
variable {w w' w'':World}{m:Mp}{ds:List Dv}{ls:List Lk}{n:Nat}{M:Mnd}
theorem CK.of_below(h:Below w w w'):CK w w':=⟨h.size,λb _ hb=>h.block b hb⟩
theorem CK.cell(h:CK w w'){a:Addr}{v:Value}(hc:w.cell? a=some v):w'.cell? a=some v:=by
 have hl:=World.block_lt_of_cell? w _ hc;have hb:=h.block a.block (λes c e=>by
  unfold World.cell? at hc;rw[e]at hc;cases hc) hl
 unfold World.cell? at hc ⊢;rw[hb];exact hc
theorem SlAt.ck{α:Type}{a9 k:Nat}{R R':List Value->α->Prop}{v:Value}{xs:List α}(h:SlAt a9 w k R v xs)(hb:CK w w')(hR:∀cs x,x∈xs->R cs x->R' cs x):SlAt a9 w' k R' v xs:=by
 obtain⟨A,cap,e,h0,h1,h2,h3⟩:=h;refine⟨A,cap,e,h0,h1,h2,λhn=>?_⟩;obtain⟨b,o,ea,hl,hr⟩:=h3 hn;refine⟨b,o,ea,hl,λk x hx=>?_⟩;obtain⟨cs,c1,c2,c3⟩:=hr k x hx;exact⟨cs,c1,hR cs x (List.mem_of_getElem? hx) c2,λj u hj=>hb.cell (c3 j u hj)⟩
theorem IsDv.ck{a9:Nat}{cs:List Value}{d:Dv}(h:IsDv a9 w cs d)(hb:CK w w'):IsDv a9 w' cs d:=by
 obtain⟨vb,vr,vt,e,h1,h2,h3⟩:=h;exact⟨vb,vr,vt,e,h1.ck hb (λ_ _ _ h=>h),h2.ck hb (λ_ _ _ h=>h),h3.ck hb (λ_ _ _ h=>h)⟩
theorem Devs.ck{a9:Nat}{v:Value}(h:Devs a9 w v ds)(hb:CK w w'):Devs a9 w' v ds:=SlAt.ck h hb (λ_ _ _ h=>h.ck hb)
theorem Links.ck{a9:Nat}{v:Value}(h:Links a9 w v ls)(hb:CK w w'):Links a9 w' v ls:=SlAt.ck h hb (λ_ _ _ h=>h)
theorem HK.refl(m:Mp)(w:World):HK m w w:=⟨rfl,rfl,rfl,Nat.le_refl _,λ_ _ _ _ _=>rfl⟩
theorem HK.trans(h:HK m w w')(g:HK m w' w''):HK m w w'' :=
 ⟨g.os.trans h.os,g.tape.trans h.tape,g.output.trans h.output,Nat.le_trans h.size g.size,λb hb h1 h2 h3=>(g.block b (Nat.lt_of_lt_of_le hb h.size) h1 h2 h3).trans (h.block b hb h1 h2 h3)⟩
theorem HK.of_below(h:Below w w w'):HK m w w':=⟨h.os,h.tape,h.output,h.size,λb hb _ _ _=>h.block b hb⟩
theorem ka{b:Nat}(h:w.mapTurned w' b):w'.heap.size=w.heap.size:=by
 obtain⟨es,c,es',c',hb,rfl⟩:=h;simp[ChangeMaps.setBlock]
theorem cP{b x:Nat}(h:w.mapTurned w' b)(hx:x≠b):w'.heap[x]?=w.heap[x]?:=by
 have g:=h.grown;by_cases hl:x<w.heap.size
 ·exact g.block x hl (by simpa using hx)
 ·rw[Array.getElem?_eq_none (xs:=w'.heap) (by rw[ka h];omega),Array.getElem?_eq_none (xs:=w.heap) (by omega)]
theorem HK.of_turned{b:Nat}(h:w.mapTurned w' b)(hb:b=m.f\/b=m.o\/b=m.k):HK m w w':=by
 have g:=h.grown;exact⟨g.os,g.tape,g.output,g.size,λx hx h1 h2 h3=>cP h (by omega)⟩
theorem CK.of_turned{b:Nat}(h:w.mapTurned w' b):CK w w':=by
 refine⟨by rw[ka h];omega,λx hx hl=>cP h (λe=>?_)⟩;obtain⟨es,c,_,_,hb,_⟩:=h;exact hx es c (by rw[e];exact hb)
theorem MemAt.ck(h:MemAt w m ds ls n M)(hk:HK m w w'):CK w w':=by
 refine⟨hk.size,λb hb hl=>hk.block b hl ?_ ?_ ?_⟩
 ·rintro rfl;obtain⟨es,c,e⟩:=h.fl.isMap;exact hb es c e
 ·rintro rfl;obtain⟨es,c,e⟩:=h.ow.isMap;exact hb es c e
 ·rintro rfl;obtain⟨es,c,e⟩:=h.bk.isMap;exact hb es c e
theorem MemAt.notMap(h:MemAt w m ds ls n M):∀es c,w.heap[m.B]?≠some (.map es c):=λes c e=>by
 rw[h.blk.1]at e;cases e
theorem MemAt.lt(h:MemAt w m ds ls n M):m.B<w.heap.size:=(Array.getElem?_eq_some_iff.1 h.blk.1).1
theorem MemAt.below(h:MemAt w m ds ls n M)(hb:Below w w w'):MemAt w' m ds ls n M :=
 ⟨⟨(hb.block _ h.lt).trans h.blk.1,h.blk.2⟩,(h.devs.below hb).mono hb.size,(h.links.below hb).mono hb.size,h.fl.same (hb.block _ h.fl.lt),h.ow.same (hb.block _ h.ow.lt),h.bk.same (hb.block _ h.bk.lt),h.fo,h.fk,h.ok⟩
theorem MemAt.drew(h:MemAt w m ds ls n M):MemAt w.drew m ds ls n M:=⟨h.blk,h.devs,h.links,h.fl,h.ow,h.bk,h.fo,h.fk,h.ok⟩
theorem MemAt.alloc(h:MemAt w m ds ls n M)(o:Obj):MemAt (w.alloc o) m ds ls n M:=h.below ((Below.refl _ _).alloc (Nat.le_refl _) o)
theorem MemAt.mono(h:MemAt w m ds ls n M){n':Nat}(hn:n<=n'):MemAt w m ds ls n' M:=⟨h.blk,h.devs,h.links,h.fl.mono hn,h.ow.mono hn,h.bk.mono hn,h.fo,h.fk,h.ok⟩
theorem MemAt.cells(h:MemAt w m ds ls n M):w.cell? ⟨m.B,m.z,none⟩=some (.slice m.A ds.length m.cap) /\ w.cell? ⟨m.B,m.z+1,none⟩=some (.slice m.L ls.length m.e9) /\ w.cell? ⟨m.B,m.z+2,none⟩=some (.map (some m.f)) /\ w.cell? ⟨m.B,m.z+3,none⟩=some (.map (some m.o)) /\ w.cell? ⟨m.B,m.z+4,none⟩=some (.map (some m.k)):=by
 have hz:=h.blk.2;refine⟨?_,?_,?_,?_,?_⟩ <;>(rw[cell_of_row w m.B _ _ _ _ h.blk.1,List.getElem?_toArray,<- hz,List.getElem?_append_right (by omega)];simp)
end
theorem uMf:prog.underlying 103=some (.map 175 111):=by kernel_rfl
theorem uMo:prog.underlying 104=some (.map 178 180):=by kernel_rfl
theorem uMk:prog.underlying 105=some (.map 175 3):=by kernel_rfl
section
variable {w:World}{m:Mp}{ds:List Dv}{ls:List Lk}{n:Nat}{M:Mnd}
theorem MemAt.lookF(h:MemAt w m ds ls n M){i:Int}{p:Pk}(hi:aj i)(hp:p.ok):(Instr.lookup 103 (.map (some m.f)) (.agg #[i,p.s,p.d,p.sp,p.dp]) true).run prog w=.ok (.tuple #[.agg #[],.bool (M.fl (i,p)).isSome]) w:=h.fl.look uMf (x:=(i,p)) ⟨hi,hp⟩
theorem MemAt.lookO(h:MemAt w m ds ls n M){i k:Int}(hi:aj i)(hk:aj k):(Instr.lookup 104 (.map (some m.o)) (.agg #[i,k]) true).run prog w=.ok (.tuple #[.agg #[.int .i64 ((M.ow (i,k)).getD (0,0)).1,.int .i64 ((M.ow (i,k)).getD (0,0)).2],.bool (M.ow (i,k)).isSome]) w:=h.ow.look uMo (x:=(i,k)) ⟨hi,hk⟩
theorem MemAt.lookB(h:MemAt w m ds ls n M){i:Int}{p:Pk}(hi:aj i)(hp:p.ok):(Instr.lookup 105 (.map (some m.k)) (.agg #[i,p.s,p.d,p.sp,p.dp]) true).run prog w=.ok (.tuple #[.int .i64 ((M.bk (i,p)).getD 0),.bool (M.bk (i,p)).isSome]) w:=h.bk.look uMk (x:=(i,p)) ⟨hi,hp⟩
end
abbrev pkC(p:Pk):Obj:=.cells #[p.s,p.d,p.sp,p.dp] 37
abbrev lvA(q:Int)(p:Pk)(fv:Value):Value:=.agg #[q,p.s,p.d,p.sp,p.dp,fv]
theorem mh(n:Int)(w:World):CS 114 #[n] w (.bool (adB n)):=by
 unfold adB;cases h1:decide (0<=n)
 ·go_enter func114,ntmps114;go_wp2_with fail;go_ret;exact⟨by simp,rfl⟩
 ·go_enter func114,ntmps114;go_wp2_with fail;go_ret;exact⟨by simp,rfl⟩
theorem mi(n:Int)(w:World):CS 115 #[n] w (.bool (poB n)):=by
 unfold poB;cases h1:decide (0<=n)
 ·go_enter func115,ntmps115;go_wp2_with fail;go_ret;exact⟨by simp,rfl⟩
 ·go_enter func115,ntmps115;go_wp2_with fail;go_ret;exact⟨by simp,rfl⟩
theorem eU(p:Pk)(w:World):CB 73 #[pkV p] w (.int .i64 (if ae p then 0 else 1)):=by
 obtain⟨s,d,sp,dp⟩:=p;have D0:=Below.alN (Below.refl w w) (pkC ⟨s,d,sp,dp⟩);have A1:Hid (∀w,CS 114 #[s] w (.bool (adB s))):=λw=>mh s w;have A2:Hid (∀w,CS 114 #[d] w (.bool (adB d))):=λw=>mh d w;have A3:Hid (∀w,CS 115 #[sp] w (.bool (poB sp))):=λw=>mi sp w;have A4:Hid (∀w,CS 115 #[dp] w (.bool (poB dp))):=λw=>mi dp w;unfold ae;simp only;generalize adB s=x1 at *;generalize adB d=x2 at *;generalize poB sp=x3 at *;generalize poB dp=x4 at *;cases x1
 ·go_enter func73,ntmps73;go_wp2_with fail;refine(A1.out _).mono ?_;rintro e w'⟨rfl,rfl⟩;go_wp2_with fail;go_ret;exact⟨by simp,D0⟩
 cases x2
 ·go_enter func73,ntmps73;go_wp2_with fail;refine(A1.out _).mono ?_;rintro e w'⟨rfl,rfl⟩;go_wp2_with fail;refine(A2.out _).mono ?_;rintro e w'⟨rfl,rfl⟩;go_wp2_with fail;go_ret;exact⟨by simp,D0⟩
 cases x3
 ·go_enter func73,ntmps73;go_wp2_with fail;refine(A1.out _).mono ?_;rintro e w'⟨rfl,rfl⟩;go_wp2_with fail;refine(A2.out _).mono ?_;rintro e w'⟨rfl,rfl⟩;go_wp2_with fail;refine(A3.out _).mono ?_;rintro e w'⟨rfl,rfl⟩;go_wp2_with fail;go_ret;exact⟨by simp,D0⟩
 cases x4;all_goals
  go_enter func73,ntmps73;go_wp2_with fail;refine(A1.out _).mono ?_;rintro e w'⟨rfl,rfl⟩;go_wp2_with fail;refine(A2.out _).mono ?_;rintro e w'⟨rfl,rfl⟩;go_wp2_with fail;refine(A3.out _).mono ?_;rintro e w'⟨rfl,rfl⟩;go_wp2_with fail;refine(A4.out _).mono ?_;rintro e w'⟨rfl,rfl⟩;go_wp2_with fail;go_ret;exact⟨by simp,D0⟩
theorem pflip_any(p:Pk)(w:World):CB 173 #[pkV p] w (pkV (aN p)):=by
 obtain⟨s,d,sp,dp⟩:=p;go_enter func173,ntmps173;go_wp2_with fail;refine bodyPost_ret (v:=pkV ⟨d,s,dp,sp⟩) (by simp[results,results173,go_sem]) rfl ⟨rfl,?_⟩;exact Below.alN (Below.alN (Below.refl _ _) _) _
theorem gK(w:World):CB 151 #[] w (.tuple #[lvA 0 zeroP .nilFunc,.int .i64 7]):=by
 go_enter func151,ntmps151;go_wp2_with fail;refine bodyPost_ret (v:=.tuple #[lvA 0 zeroP .nilFunc,.int .i64 7]) (by simp[results,results151,go_sem,zeroP]) rfl ⟨rfl,?_⟩;exact Below.alN (Below.refl _ _) _
theorem gL(q:Int)(p:Pk)(w:World):CB 180 #[q,pkV p] w (.tuple #[lvA q p (.func (.func 208) #[] #[]),.int .i64 0]):=by
 obtain⟨s,d,sp,dp⟩:=p;go_enter func180,ntmps180;go_wp2_with fail;refine bodyPost_ret (v:=.tuple #[lvA q ⟨s,d,sp,dp⟩ (.func (.func 208) #[] #[]),.int .i64 0]) (by simp[results,results180,go_sem]) rfl ⟨rfl,?_⟩;exact Below.alN (Below.alN (Below.refl _ _) _) _
theorem rD(w:World):CS 208 #[] w (.tuple #[]):=by
 go_enter func208,ntmps208;go_wp2_with fail
 go_returns
 exact⟨rfl,rfl⟩
section
variable {w:World}{m:Mp}{ds:List Dv}{ls:List Lk}{n:Nat}{M:Mnd}
theorem MemAt.ne_f(h:MemAt w m ds ls n M):m.B≠m.f:=λe=>by
 obtain⟨es,c,hb⟩:=h.fl.isMap;exact h.notMap es c (by rw[e];exact hb)
theorem MemAt.ne_o(h:MemAt w m ds ls n M):m.B≠m.o:=λe=>by
 obtain⟨es,c,hb⟩:=h.ow.isMap;exact h.notMap es c (by rw[e];exact hb)
theorem MemAt.ne_k(h:MemAt w m ds ls n M):m.B≠m.k:=λe=>by
 obtain⟨es,c,hb⟩:=h.bk.isMap;exact h.notMap es c (by rw[e];exact hb)
theorem MemAt.turnF{w':World}{n':Nat}{g:Int × Pk->Option Unit}(h:MemAt w m ds ls n M)(hn:n<=n')(hf:MapAt eQ cO w' m.f n' g)(ht:w.mapTurned w' m.f):MemAt w' m ds ls n' { M with fl:=g } /\ HK m w w':=by
 have hc:=CK.of_turned ht;exact⟨⟨⟨(cP ht h.ne_f).trans h.blk.1,h.blk.2⟩,(h.devs.ck hc).mono hc.size,(h.links.ck hc).mono hc.size,hf,(h.ow.same (cP ht h.fo.symm)).mono hn,(h.bk.same (cP ht h.fk.symm)).mono hn,h.fo,h.fk,h.ok⟩,HK.of_turned ht (by simp)⟩
theorem MemAt.turnO{w':World}{n':Nat}{g:Int × Int->Option (Int × Int)}(h:MemAt w m ds ls n M)(hn:n<=n')(hf:MapAt jQ jS w' m.o n' g)(ht:w.mapTurned w' m.o):MemAt w' m ds ls n' { M with ow:=g } /\ HK m w w':=by
 have hc:=CK.of_turned ht;exact⟨⟨⟨(cP ht h.ne_o).trans h.blk.1,h.blk.2⟩,(h.devs.ck hc).mono hc.size,(h.links.ck hc).mono hc.size,(h.fl.same (cP ht h.fo)).mono hn,hf,(h.bk.same (cP ht h.ok.symm)).mono hn,h.fo,h.fk,h.ok⟩,HK.of_turned ht (by simp)⟩
theorem MemAt.turnK{w':World}{n':Nat}{g:Int × Pk->Option Int}(h:MemAt w m ds ls n M)(hn:n<=n')(hf:MapAt eQ jR w' m.k n' g)(ht:w.mapTurned w' m.k):MemAt w' m ds ls n' { M with bk:=g } /\ HK m w w':=by
 have hc:=CK.of_turned ht;exact⟨⟨⟨(cP ht h.ne_k).trans h.blk.1,h.blk.2⟩,(h.devs.ck hc).mono hc.size,(h.links.ck hc).mono hc.size,(h.fl.same (cP ht h.fk)).mono hn,(h.ow.same (cP ht h.ok)).mono hn,hf,h.fo,h.fk,h.ok⟩,HK.of_turned ht (by simp)⟩
theorem MemAt.learnF(h:MemAt w m ds ls n M)(hn:n<maxLen){i:Int}{p:Pk}(hi:aj i)(hp:p.ok):∃w',(Instr.mapUpdate 103 (.map (some m.f)) (.agg #[i,p.s,p.d,p.sp,p.dp]) (.agg #[])).run prog w=.ok () w' /\ MemAt w' m ds ls (n+1) (learnP M (.flow i p)) /\ HK m w w':=by
 obtain⟨w',hr,hm,ht⟩:=h.fl.store uMf hn (x:=(i,p)) ⟨hi,hp⟩ ();exact⟨w',hr,h.turnF (by omega) hm ht⟩
theorem MemAt.learnO(h:MemAt w m ds ls n M)(hn:n<maxLen){i k:Int}{s:Int × Int}(hi:aj i)(hk:aj k):∃w',(Instr.mapUpdate 104 (.map (some m.o)) (.agg #[i,k]) (.agg #[s.1,s.2])).run prog w=.ok () w' /\ MemAt w' m ds ls (n+1) (learnP M (.own i k s)) /\ HK m w w':=by
 obtain⟨w',hr,hm,ht⟩:=h.ow.store uMo hn (x:=(i,k)) ⟨hi,hk⟩ s;exact⟨w',hr,h.turnO (by omega) hm ht⟩
theorem MemAt.learnB(h:MemAt w m ds ls n M)(hn:n<maxLen){i:Int}{p:Pk}{b:Int}(hi:aj i)(hp:p.ok):∃w',(Instr.mapUpdate 105 (.map (some m.k)) (.agg #[i,p.s,p.d,p.sp,p.dp]) (.int .i64 b)).run prog w=.ok () w' /\ MemAt w' m ds ls (n+1) (learnP M (.back i p b)) /\ HK m w w':=by
 obtain⟨w',hr,hm,ht⟩:=h.bk.store uMk hn (x:=(i,p)) ⟨hi,hp⟩ b;exact⟨w',hr,h.turnK (by omega) hm ht⟩
end
def LrnAt(N:Nat)(w:World)(m:Mp)(fv:Value):Lrn->Prop
 | .no=>fv=.func (.func 208) #[] #[]
 | .flow i p=>aj i /\ p.ok /\ ∃a b,fv=.func (.func 181) #[] #[.pointer (some ⟨a,0,none⟩),.pointer (some ⟨b,0,none⟩)] /\ N<=a /\ N<=b /\ w.cell? ⟨a,0,none⟩=some (.pointer (some ⟨m.B,m.z,none⟩)) /\ w.cell? ⟨b,0,none⟩=some (.int .i64 i) /\ w.cell? ⟨b,1,none⟩=some (.int .i64 p.s) /\ w.cell? ⟨b,2,none⟩=some (.int .i64 p.d) /\ w.cell? ⟨b,3,none⟩=some (.int .i64 p.sp) /\ w.cell? ⟨b,4,none⟩=some (.int .i64 p.dp)
 | .own i k s=>aj i /\ aj k /\ ∃a b c d,fv=.func (.func 184) #[] #[.pointer (some ⟨a,0,none⟩),.pointer (some ⟨b,0,none⟩),.pointer (some ⟨c,0,none⟩),.pointer (some ⟨d,0,none⟩)] /\ N<=a /\ N<=b /\ N<=c /\ N<=d /\ w.cell? ⟨a,0,none⟩=some (.int .i64 s.1) /\ w.cell? ⟨a,1,none⟩=some (.int .i64 s.2) /\ w.cell? ⟨b,0,none⟩=some (.pointer (some ⟨m.B,m.z,none⟩)) /\ w.cell? ⟨c,0,none⟩=some (.int .i64 i) /\ w.cell? ⟨d,0,none⟩=some (.int .i64 k)
 | .back i p x=>aj i /\ p.ok /\ ∃a b c,fv=.func (.func 185) #[] #[.pointer (some ⟨a,0,none⟩),.pointer (some ⟨b,0,none⟩),.pointer (some ⟨c,0,none⟩)] /\ N<=a /\ N<=b /\ N<=c /\ w.cell? ⟨a,0,none⟩=some (.int .i64 x) /\ w.cell? ⟨b,0,none⟩=some (.pointer (some ⟨m.B,m.z,none⟩)) /\ w.cell? ⟨c,0,none⟩=some (.int .i64 i) /\ w.cell? ⟨c,1,none⟩=some (.int .i64 p.s) /\ w.cell? ⟨c,2,none⟩=some (.int .i64 p.d) /\ w.cell? ⟨c,3,none⟩=some (.int .i64 p.sp) /\ w.cell? ⟨c,4,none⟩=some (.int .i64 p.dp)
theorem LrnAt.keep{N N':Nat}{w w':World}{m:Mp}{fv:Value}{l:Lrn}(h:LrnAt N w m fv l)(hN:N'<=N)(C:∀{b o:Nat} {v:Value},N<=b->w.cell? ⟨b,o,none⟩=some v->w'.cell? ⟨b,o,none⟩=some v):LrnAt N' w' m fv l:=by
 cases l with
 | no=>exact h
 | flow i p =>
   obtain⟨hi,hp,a,b,e,n1,n2,h0,h1,h2,h3,h4,h5⟩:=h;exact⟨hi,hp,a,b,e,by omega,by omega,C n1 h0,C n2 h1,C n2 h2,C n2 h3,C n2 h4,C n2 h5⟩
 | own i k s =>
   obtain⟨hi,hp,a,b,c,d,e,n1,n2,n3,n4,h0,h1,h2,h3,h4⟩:=h;exact⟨hi,hp,a,b,c,d,e,by omega,by omega,by omega,by omega,C n1 h0,C n1 h1,C n2 h2,C n3 h3,C n4 h4⟩
 | back i p x =>
   obtain⟨hi,hp,a,b,c,e,n1,n2,n3,h0,h1,h2,h3,h4,h5,h6⟩:=h;exact⟨hi,hp,a,b,c,e,by omega,by omega,by omega,C n1 h0,C n2 h1,C n3 h2,C n3 h3,C n3 h4,C n3 h5,C n3 h6⟩
theorem LrnAt.below{N:Nat}{w w':World}{m:Mp}{fv:Value}{l:Lrn}(h:LrnAt N w m fv l)(hb:Below w w w'):LrnAt N w' m fv l :=
 h.keep (Nat.le_refl _) (λ_ hc=>(CK.of_below hb).cell hc)
theorem rE(a b:Nat)(m:Mp)(ds:List Dv)(ls:List Lk)(n:Nat)(M:Mnd)(i:Int)(p:Pk)(w:World)(hM:Hid (MemAt w m ds ls n M))(hn:n<maxLen)(hi:aj i)(hp:p.ok)(h0:w.cell? ⟨a,0,none⟩=some (.pointer (some ⟨m.B,m.z,none⟩)))(h1:w.cell? ⟨b,0,none⟩=some (.int .i64 i))(h2:w.cell? ⟨b,1,none⟩=some (.int .i64 p.s))(h3:w.cell? ⟨b,2,none⟩=some (.int .i64 p.d))(h4:w.cell? ⟨b,3,none⟩=some (.int .i64 p.sp))(h5:w.cell? ⟨b,4,none⟩=some (.int .i64 p.dp)) :
  Cl 181 #[.pointer a,.pointer b] w λe w'=>e=.returned (.tuple #[]) /\ MemAt w' m ds ls (n+1) (learnP M (.flow i p)) /\ HK m w w':=by
 obtain⟨w1,hrun,hm,hk⟩:=hM.out.drew.learnF hn hi hp;have hk':HK m w w1:=(HK.of_below (Below.drew (Below.refl _ _))).trans hk;obtain⟨_,_,q0,_,_⟩:=hM.out.cells;clear hM hi hp hn hk;go_enter func181,ntmps181;go_region
 go_returns
 exact⟨rfl,hm,hk'⟩
theorem rF(a b c d:Nat)(m:Mp)(ds:List Dv)(ls:List Lk)(n:Nat)(M:Mnd)(i k:Int)(s:Int × Int)(w:World)(hM:Hid (MemAt w m ds ls n M))(hn:n<maxLen)(hi:aj i)(hk:aj k)(h0:w.cell? ⟨a,0,none⟩=some (.int .i64 s.1))(h1:w.cell? ⟨a,1,none⟩=some (.int .i64 s.2))(h2:w.cell? ⟨b,0,none⟩=some (.pointer (some ⟨m.B,m.z,none⟩)))(h3:w.cell? ⟨c,0,none⟩=some (.int .i64 i))(h4:w.cell? ⟨d,0,none⟩=some (.int .i64 k)) :
  Cl 184 #[.pointer a,.pointer b,.pointer c,.pointer d] w λe w'=>e=.returned (.tuple #[]) /\ MemAt w' m ds ls (n+1) (learnP M (.own i k s)) /\ HK m w w':=by
 obtain⟨w1,hrun,hm,hk1⟩:=hM.out.drew.learnO hn (s:=s) hi hk;have hk':HK m w w1:=(HK.of_below (Below.drew (Below.refl _ _))).trans hk1;obtain⟨_,_,_,q0,_⟩:=hM.out.cells;clear hM hi hk hn hk1;go_enter func184,ntmps184;go_region
 go_returns
 exact⟨rfl,hm,hk'⟩
theorem rG(a b c:Nat)(m:Mp)(ds:List Dv)(ls:List Lk)(n:Nat)(M:Mnd)(i:Int)(p:Pk)(x:Int)(w:World)(hM:Hid (MemAt w m ds ls n M))(hn:n<maxLen)(hi:aj i)(hp:p.ok)(h6:w.cell? ⟨a,0,none⟩=some (.int .i64 x))(h0:w.cell? ⟨b,0,none⟩=some (.pointer (some ⟨m.B,m.z,none⟩)))(h1:w.cell? ⟨c,0,none⟩=some (.int .i64 i))(h2:w.cell? ⟨c,1,none⟩=some (.int .i64 p.s))(h3:w.cell? ⟨c,2,none⟩=some (.int .i64 p.d))(h4:w.cell? ⟨c,3,none⟩=some (.int .i64 p.sp))(h5:w.cell? ⟨c,4,none⟩=some (.int .i64 p.dp)) :
  Cl 185 #[.pointer a,.pointer b,.pointer c] w λe w'=>e=.returned (.tuple #[]) /\ MemAt w' m ds ls (n+1) (learnP M (.back i p x)) /\ HK m w w':=by
 obtain⟨w1,hrun,hm,hk⟩:=hM.out.drew.learnB hn (b:=x) hi hp;have hk':HK m w w1:=(HK.of_below (Below.drew (Below.refl _ _))).trans hk;obtain⟨_,_,_,_,q0⟩:=hM.out.cells;clear hM hi hp hn hk;go_enter func185,ntmps185;go_region
 go_returns
 exact⟨rfl,hm,hk'⟩
section
variable {w w':World}{k:Nat}{c:Array Value}{t:TypeId}
end
abbrev lvC:Obj:=.cells #[.int .i64 0,.int .i64 0,.int .i64 0,.int .i64 0,.int .i64 0,.nilFunc] 214
abbrev dvC(nm:ByteArray)(k ad:Int)(pl:Nat)(vb vr vt:Value):Obj:=.cells #[.string nm,k,ad,.int .u8 (pl:Int),vb,vr,vt] 70
def FV(v:Value):Prop:=v=.nilFunc\/∃fn cp,v=.func fn #[] cp
def aP(m:Mp)(w:World)(r:SR)(e:Ending)(w':World):Prop :=
 ∃(q:Int) (p:Pk) (fv:Value) (er:Int),e=.returned (.tuple #[lvA q p fv,er]) /\ Hid (er=r.err /\ FV fv /\ (r.err=0->q=r.port /\ p=r.p /\ LrnAt w.heap.size w' m fv r.l)) /\ Below w w w'
theorem rH{a9:Nat}{w:World}{v:Value}{xs:List NRule}(h:SlAt a9 w 5 aY v xs):Rules a9 w v (xs.map λr=>⟨r.ok,r.a,r.b,r.c,r.d,r.ha,r.hb,r.hc,r.hd⟩):=by
 obtain⟨A,cap,rfl,h0,h1,h2,h3⟩:=h;refine⟨A,cap,by rw[List.length_map],h0,by rw[List.length_map];exact h1,h2,λhn=>?_⟩;obtain⟨b,o,ea,hl,hr⟩:=h3 (λe=>hn (by rw[e];rfl));refine⟨b,o,ea,hl,λj u hj=>?_⟩;have hjl:=(List.getElem?_eq_some_iff.1 hj).1;rw[kF,List.length_map]at hjl;have hk:j / 5<xs.length:=by omega
 have hx:xs[j / 5]?=some xs[j / 5]:=List.getElem?_eq_getElem hk;obtain⟨cs,_,rfl,hc⟩:=hr _ _ hx;obtain⟨c0,c1,c2,c3,c4⟩:=ji (xs.map λr:NRule=>(⟨r.ok,r.a,r.b,r.c,r.d,r.ha,r.hb,r.hc,r.hd⟩:Rl)) (j / 5) _ (by rw[List.getElem?_map,hx];rfl);have hm:j % 5=0\/j % 5=1\/j % 5=2\/j % 5=3\/j % 5=4:=by omega
 have eo:o+j=o+j / 5*5+j % 5:=by omega
 rw[eo];rcases hm with hm|hm|hm|hm|hm
 ·rw[show j=j / 5*5 by omega,c0]at hj;rw[hm,<- Option.some.inj hj];exact hc 0 _ rfl
 ·rw[show j=j / 5*5+1 by omega,c1]at hj;rw[hm,<- Option.some.inj hj];exact hc 1 _ rfl
 ·rw[show j=j / 5*5+2 by omega,c2]at hj;rw[hm,<- Option.some.inj hj];exact hc 2 _ rfl
 ·rw[show j=j / 5*5+3 by omega,c3]at hj;rw[hm,<- Option.some.inj hj];exact hc 3 _ rfl
 ·rw[show j=j / 5*5+4 by omega,c4]at hj;rw[hm,<- Option.some.inj hj];exact hc 4 _ rfl
structure DevAt(w:World)(d:Dv)(b o:Nat)(vb vr vt:Value):Prop where
 c0:w.cell? ⟨b,o,none⟩=some (.string d.name)
 c1:w.cell? ⟨b,o+1,none⟩=some (.int .i64 d.kind)
 c2:w.cell? ⟨b,o+2,none⟩=some (.int .i64 d.addr)
 c3:w.cell? ⟨b,o+3,none⟩=some (.int .u8 (d.pool:Int))
 c4:w.cell? ⟨b,o+4,none⟩=some vb
 c5:w.cell? ⟨b,o+5,none⟩=some vr
 c6:w.cell? ⟨b,o+6,none⟩=some vt
 backs:SlAt w w 1 IsI vb d.backs
 rules:Rules w w vr (rulesOf d)
 routes:Routes w w vt (routesOf d)
theorem MemAt.dev{w:World}{m:Mp}{ds:List Dv}{ls:List Lk}{n:Nat}{M:Mnd}(h:MemAt w m ds ls n M){i:Nat}{d:Dv}(hx:ds[i]?=some d) :
  ∃b o vb vr vt,m.A=some ⟨b,o,none⟩ /\ DevAt w d b (o+i*7) vb vr vt /\ (0:Int)<=(i:Int) /\ (i:Int)<(ds.length:Int):=by
 obtain⟨b,o,vb,vr,vt,eA,hb,s1,s2,s3,c0,c1,c2,c3,c4,c5,c6⟩:=h.devs.at hx;have hi:=(List.getElem?_eq_some_iff.1 hx).1;exact⟨b,o,vb,vr,vt,eA,⟨c0,c1,c2,c3,c4,c5,c6,s1,rH s2,kD s3⟩,by omega,by omega⟩
theorem rI{w w':World}{b o:Nat}(h:w'.heap[b]?=w.heap[b]?):w'.cell? ⟨b,o,none⟩=w.cell? ⟨b,o,none⟩:=by
 unfold World.cell?;rw[h]
theorem bK{w:World}{k b:Nat}(h:b≠k)(u0 u1 u2 u3 u4 u5:Value):((((((w.setCell ⟨k,0,none⟩ u0).setCell ⟨k,1,none⟩ u1).setCell ⟨k,2,none⟩ u2).setCell ⟨k,3,none⟩ u3).setCell ⟨k,4,none⟩ u4).setCell ⟨k,5,none⟩ u5).heap[b]?=w.heap[b]?:=by
 rw[Below.heap_setCell _ _ _ _ h,Below.heap_setCell _ _ _ _ h,Below.heap_setCell _ _ _ _ h,Below.heap_setCell _ _ _ _ h,Below.heap_setCell _ _ _ _ h,Below.heap_setCell _ _ _ _ h]
theorem cl{m:Mp}{N k:Nat}{w' w'':World}{r:SR}{q er:Int}{p:Pk}{fv:Value}{n0:Nat}(h:er=r.err /\ FV fv /\ (r.err=0->q=r.port /\ p=r.p /\ LrnAt N w' m fv r.l))(hk:k<N)(hn:n0<=N)(hc:∀b,b≠k->w''.heap[b]?=w'.heap[b]?):er=r.err /\ FV fv /\ (r.err=0->q=r.port /\ p=r.p /\ LrnAt n0 w'' m fv r.l) :=
 ⟨h.1,h.2.1,λhe=>⟨(h.2.2 he).1,(h.2.2 he).2.1,(h.2.2 he).2.2.keep hn (λ{b o v} hb hv=>(rI (hc b (by omega))).trans hv)⟩⟩
theorem rJ(m:Mp)(ds:List Dv)(ls:List Lk)(n:Nat)(M:Mnd)(i:Nat)(d:Dv)(q:Int)(p:Pk)(c:Int)(r:SR)(w:World)(hM:Hid (MemAt w m ds ls n M))(hx:Hid (ds[i]?=some d))(hk:d.kind=2)
  (CF:Hid (∀W,MemAt W m ds ls n M->Cl 144 #[.pointer (some ⟨m.B,m.z,none⟩),(i:Int),pkV p] W (aP m W r))) :
  Cl 116 #[.pointer (some ⟨m.B,m.z,none⟩),plA (i:Int) q,pkV p,c] w (aP m w r):=by
 have M2:=((hM.out.alloc (.cells #[(i:Int),q] 27)).alloc (pkC p)).alloc lvC;have D2:=Below.alN (Below.alN (Below.alN (Below.refl w w) (.cells #[(i:Int),q] 27)) (pkC p)) lvC;have L2:=ax ((w.alloc (.cells #[(i:Int),q] 27)).alloc (pkC p)) #[.int .i64 0,.int .i64 0,.int .i64 0,.int .i64 0,.int .i64 0,.nilFunc] 214 (w.heap.size+1+1) (by simp);obtain⟨q0,_,_,_,_⟩:=M2.cells;obtain⟨b,o,vb,vr,vt,eA,HD,k1,k2⟩:=M2.dev hx.out;rw[eA]at q0;obtain⟨c0,c1,c2,c3,c4,c5,c6,s1,s2,s3⟩:=HD;rw[hk]at c1;obtain⟨s,dd,sp,dp⟩:=p;clear hM hx eA s1 s2 s3 c0 c2 c3 c4 c5 c6;go_enter func116,ntmps116;go_wp2_with fail;go_region;clear c1 q0;go_wp2_with fail;refine(CF.out _ M2.drew).mono ?_;rintro e w5⟨q2,p2,fv,er,rfl,HQ,hb5⟩;have D5:=aa hb5 D2.drew;have L5:=L2.drew.keep hb5;have zN:w.heap.size+1+1<(World.heap (((w.alloc (.cells #[(i:Int),q] 27)).alloc (pkC ⟨s,dd,sp,dp⟩)).alloc lvC).drew).size:=L2.lt;have zM:w.heap.size<=(World.heap (((w.alloc (.cells #[(i:Int),q] 27)).alloc (pkC ⟨s,dd,sp,dp⟩)).alloc lvC).drew).size:=by omega
 obtain⟨⟨l0,l1,l2,l3,l4,l5⟩,⟨f0,f1,f2,f3,f4,f5⟩⟩:=L5.six;obtain⟨ps,pd,psp,pdp⟩:=p2;rcases HQ.out.2.1 with rfl|⟨fn,cp,rfl⟩
 ·go_wp2_with fail;refine bodyPost_ret (v:=.tuple #[.agg #[q2,ps,pd,psp,pdp,.nilFunc],er]) (by simp[results,results116,go_sem,l0,l1,l2,l3,l4,l5]) rfl ⟨q2,⟨ps,pd,psp,pdp⟩,_,er,rfl,?_,?_⟩
  ·exact cl HQ.out zN zM (λb hb=>bK hb _ _ _ _ _ _)
  ·go_grown
 ·go_wp2_with fail;refine bodyPost_ret (v:=.tuple #[.agg #[q2,ps,pd,psp,pdp,.func fn #[] cp],er]) (by simp[results,results116,go_sem,l0,l1,l2,l3,l4,l5]) rfl ⟨q2,⟨ps,pd,psp,pdp⟩,_,er,rfl,?_,?_⟩
  ·exact cl HQ.out zN zM (λb hb=>bK hb _ _ _ _ _ _)
  ·go_grown
theorem rK(m:Mp)(ds:List Dv)(ls:List Lk)(n:Nat)(M:Mnd)(i:Nat)(d:Dv)(q:Int)(p:Pk)(c:Int)(r:SR)(w:World)(hM:Hid (MemAt w m ds ls n M))(hx:Hid (ds[i]?=some d))(hk:d.kind=3)(hq:(q == 0)=true)
  (CF:Hid (∀W,MemAt W m ds ls n M->Cl 145 #[.pointer (some ⟨m.B,m.z,none⟩),(i:Int),pkV p] W (aP m W r))) :
  Cl 116 #[.pointer (some ⟨m.B,m.z,none⟩),plA (i:Int) q,pkV p,c] w (aP m w r):=by
 have M2:=((hM.out.alloc (.cells #[(i:Int),q] 27)).alloc (pkC p)).alloc lvC;have D2:=Below.alN (Below.alN (Below.alN (Below.refl w w) (.cells #[(i:Int),q] 27)) (pkC p)) lvC;have L2:=ax ((w.alloc (.cells #[(i:Int),q] 27)).alloc (pkC p)) #[.int .i64 0,.int .i64 0,.int .i64 0,.int .i64 0,.int .i64 0,.nilFunc] 214 (w.heap.size+1+1) (by simp);obtain⟨q0,_,_,_,_⟩:=M2.cells;obtain⟨b,o,vb,vr,vt,eA,HD,k1,k2⟩:=M2.dev hx.out;rw[eA]at q0;obtain⟨c0,c1,c2,c3,c4,c5,c6,s1,s2,s3⟩:=HD;rw[hk]at c1;obtain⟨s,dd,sp,dp⟩:=p;clear hM hx eA s1 s2 s3 c0 c2 c3 c4 c5 c6;go_enter func116,ntmps116;go_wp2_with fail;go_region;clear c1 q0;go_wp2_with fail;refine(CF.out _ M2.drew).mono ?_;rintro e w5⟨q2,p2,fv,er,rfl,HQ,hb5⟩;have D5:=aa hb5 D2.drew;have L5:=L2.drew.keep hb5;have zN:w.heap.size+1+1<(World.heap (((w.alloc (.cells #[(i:Int),q] 27)).alloc (pkC ⟨s,dd,sp,dp⟩)).alloc lvC).drew).size:=L2.lt;have zM:w.heap.size<=(World.heap (((w.alloc (.cells #[(i:Int),q] 27)).alloc (pkC ⟨s,dd,sp,dp⟩)).alloc lvC).drew).size:=by omega
 obtain⟨⟨l0,l1,l2,l3,l4,l5⟩,⟨f0,f1,f2,f3,f4,f5⟩⟩:=L5.six;obtain⟨ps,pd,psp,pdp⟩:=p2;rcases HQ.out.2.1 with rfl|⟨fn,cp,rfl⟩
 ·go_wp2_with fail;refine bodyPost_ret (v:=.tuple #[.agg #[q2,ps,pd,psp,pdp,.nilFunc],er]) (by simp[results,results116,go_sem,l0,l1,l2,l3,l4,l5]) rfl ⟨q2,⟨ps,pd,psp,pdp⟩,_,er,rfl,?_,?_⟩
  ·exact cl HQ.out zN zM (λb hb=>bK hb _ _ _ _ _ _)
  ·go_grown
 ·go_wp2_with fail;refine bodyPost_ret (v:=.tuple #[.agg #[q2,ps,pd,psp,pdp,.func fn #[] cp],er]) (by simp[results,results116,go_sem,l0,l1,l2,l3,l4,l5]) rfl ⟨q2,⟨ps,pd,psp,pdp⟩,_,er,rfl,?_,?_⟩
  ·exact cl HQ.out zN zM (λb hb=>bK hb _ _ _ _ _ _)
  ·go_grown
theorem rL(m:Mp)(ds:List Dv)(ls:List Lk)(n:Nat)(M:Mnd)(i:Nat)(d:Dv)(q:Int)(p:Pk)(c:Int)(r:SR)(w:World)(hM:Hid (MemAt w m ds ls n M))(hx:Hid (ds[i]?=some d))(hk:d.kind=3)(hq:(q == 0)=false)
  (CF:Hid (∀W,MemAt W m ds ls n M->Cl 146 #[.pointer (some ⟨m.B,m.z,none⟩),(i:Int),pkV p] W (aP m W r))) :
  Cl 116 #[.pointer (some ⟨m.B,m.z,none⟩),plA (i:Int) q,pkV p,c] w (aP m w r):=by
 have M2:=((hM.out.alloc (.cells #[(i:Int),q] 27)).alloc (pkC p)).alloc lvC;have D2:=Below.alN (Below.alN (Below.alN (Below.refl w w) (.cells #[(i:Int),q] 27)) (pkC p)) lvC;have L2:=ax ((w.alloc (.cells #[(i:Int),q] 27)).alloc (pkC p)) #[.int .i64 0,.int .i64 0,.int .i64 0,.int .i64 0,.int .i64 0,.nilFunc] 214 (w.heap.size+1+1) (by simp);obtain⟨q0,_,_,_,_⟩:=M2.cells;obtain⟨b,o,vb,vr,vt,eA,HD,k1,k2⟩:=M2.dev hx.out;rw[eA]at q0;obtain⟨c0,c1,c2,c3,c4,c5,c6,s1,s2,s3⟩:=HD;rw[hk]at c1;obtain⟨s,dd,sp,dp⟩:=p;clear hM hx eA s1 s2 s3 c0 c2 c3 c4 c5 c6;go_enter func116,ntmps116;go_wp2_with fail;go_region;clear c1 q0;go_wp2_with fail;refine(CF.out _ M2.drew).mono ?_;rintro e w5⟨q2,p2,fv,er,rfl,HQ,hb5⟩;have D5:=aa hb5 D2.drew;have L5:=L2.drew.keep hb5;have zN:w.heap.size+1+1<(World.heap (((w.alloc (.cells #[(i:Int),q] 27)).alloc (pkC ⟨s,dd,sp,dp⟩)).alloc lvC).drew).size:=L2.lt;have zM:w.heap.size<=(World.heap (((w.alloc (.cells #[(i:Int),q] 27)).alloc (pkC ⟨s,dd,sp,dp⟩)).alloc lvC).drew).size:=by omega
 obtain⟨⟨l0,l1,l2,l3,l4,l5⟩,⟨f0,f1,f2,f3,f4,f5⟩⟩:=L5.six;obtain⟨ps,pd,psp,pdp⟩:=p2;rcases HQ.out.2.1 with rfl|⟨fn,cp,rfl⟩
 ·go_wp2_with fail;refine bodyPost_ret (v:=.tuple #[.agg #[q2,ps,pd,psp,pdp,.nilFunc],er]) (by simp[results,results116,go_sem,l0,l1,l2,l3,l4,l5]) rfl ⟨q2,⟨ps,pd,psp,pdp⟩,_,er,rfl,?_,?_⟩
  ·exact cl HQ.out zN zM (λb hb=>bK hb _ _ _ _ _ _)
  ·go_grown
 ·go_wp2_with fail;refine bodyPost_ret (v:=.tuple #[.agg #[q2,ps,pd,psp,pdp,.func fn #[] cp],er]) (by simp[results,results116,go_sem,l0,l1,l2,l3,l4,l5]) rfl ⟨q2,⟨ps,pd,psp,pdp⟩,_,er,rfl,?_,?_⟩
  ·exact cl HQ.out zN zM (λb hb=>bK hb _ _ _ _ _ _)
  ·go_grown
theorem rN(m:Mp)(ds:List Dv)(ls:List Lk)(n:Nat)(M:Mnd)(i:Nat)(d:Dv)(q:Int)(p:Pk)(c:Int)(r:SR)(w:World)(hM:Hid (MemAt w m ds ls n M))(hx:Hid (ds[i]?=some d))(hk:d.kind=4)(hq:(q == 0)=true)
  (CF:Hid (∀W,MemAt W m ds ls n M->Cl 147 #[.pointer (some ⟨m.B,m.z,none⟩),(i:Int),pkV p,c] W (aP m W r))) :
  Cl 116 #[.pointer (some ⟨m.B,m.z,none⟩),plA (i:Int) q,pkV p,c] w (aP m w r):=by
 have M2:=((hM.out.alloc (.cells #[(i:Int),q] 27)).alloc (pkC p)).alloc lvC;have D2:=Below.alN (Below.alN (Below.alN (Below.refl w w) (.cells #[(i:Int),q] 27)) (pkC p)) lvC;have L2:=ax ((w.alloc (.cells #[(i:Int),q] 27)).alloc (pkC p)) #[.int .i64 0,.int .i64 0,.int .i64 0,.int .i64 0,.int .i64 0,.nilFunc] 214 (w.heap.size+1+1) (by simp);obtain⟨q0,_,_,_,_⟩:=M2.cells;obtain⟨b,o,vb,vr,vt,eA,HD,k1,k2⟩:=M2.dev hx.out;rw[eA]at q0;obtain⟨c0,c1,c2,c3,c4,c5,c6,s1,s2,s3⟩:=HD;rw[hk]at c1;obtain⟨s,dd,sp,dp⟩:=p;clear hM hx eA s1 s2 s3 c0 c2 c3 c4 c5 c6;go_enter func116,ntmps116;go_wp2_with fail;go_region;clear c1 q0;go_wp2_with fail;refine(CF.out _ M2.drew).mono ?_;rintro e w5⟨q2,p2,fv,er,rfl,HQ,hb5⟩;have D5:=aa hb5 D2.drew;have L5:=L2.drew.keep hb5;have zN:w.heap.size+1+1<(World.heap (((w.alloc (.cells #[(i:Int),q] 27)).alloc (pkC ⟨s,dd,sp,dp⟩)).alloc lvC).drew).size:=L2.lt;have zM:w.heap.size<=(World.heap (((w.alloc (.cells #[(i:Int),q] 27)).alloc (pkC ⟨s,dd,sp,dp⟩)).alloc lvC).drew).size:=by omega
 obtain⟨⟨l0,l1,l2,l3,l4,l5⟩,⟨f0,f1,f2,f3,f4,f5⟩⟩:=L5.six;obtain⟨ps,pd,psp,pdp⟩:=p2;rcases HQ.out.2.1 with rfl|⟨fn,cp,rfl⟩
 ·go_wp2_with fail;refine bodyPost_ret (v:=.tuple #[.agg #[q2,ps,pd,psp,pdp,.nilFunc],er]) (by simp[results,results116,go_sem,l0,l1,l2,l3,l4,l5]) rfl ⟨q2,⟨ps,pd,psp,pdp⟩,_,er,rfl,?_,?_⟩
  ·exact cl HQ.out zN zM (λb hb=>bK hb _ _ _ _ _ _)
  ·go_grown
 ·go_wp2_with fail;refine bodyPost_ret (v:=.tuple #[.agg #[q2,ps,pd,psp,pdp,.func fn #[] cp],er]) (by simp[results,results116,go_sem,l0,l1,l2,l3,l4,l5]) rfl ⟨q2,⟨ps,pd,psp,pdp⟩,_,er,rfl,?_,?_⟩
  ·exact cl HQ.out zN zM (λb hb=>bK hb _ _ _ _ _ _)
  ·go_grown
theorem rO(m:Mp)(ds:List Dv)(ls:List Lk)(n:Nat)(M:Mnd)(i:Nat)(d:Dv)(q:Int)(p:Pk)(c:Int)(r:SR)(w:World)(hM:Hid (MemAt w m ds ls n M))(hx:Hid (ds[i]?=some d))(hk:d.kind=4)(hq:(q == 0)=false)
  (CF:Hid (∀W,MemAt W m ds ls n M->Cl 148 #[.pointer (some ⟨m.B,m.z,none⟩),(i:Int),pkV p] W (aP m W r))) :
  Cl 116 #[.pointer (some ⟨m.B,m.z,none⟩),plA (i:Int) q,pkV p,c] w (aP m w r):=by
 have M2:=((hM.out.alloc (.cells #[(i:Int),q] 27)).alloc (pkC p)).alloc lvC;have D2:=Below.alN (Below.alN (Below.alN (Below.refl w w) (.cells #[(i:Int),q] 27)) (pkC p)) lvC;have L2:=ax ((w.alloc (.cells #[(i:Int),q] 27)).alloc (pkC p)) #[.int .i64 0,.int .i64 0,.int .i64 0,.int .i64 0,.int .i64 0,.nilFunc] 214 (w.heap.size+1+1) (by simp);obtain⟨q0,_,_,_,_⟩:=M2.cells;obtain⟨b,o,vb,vr,vt,eA,HD,k1,k2⟩:=M2.dev hx.out;rw[eA]at q0;obtain⟨c0,c1,c2,c3,c4,c5,c6,s1,s2,s3⟩:=HD;rw[hk]at c1;obtain⟨s,dd,sp,dp⟩:=p;clear hM hx eA s1 s2 s3 c0 c2 c3 c4 c5 c6;go_enter func116,ntmps116;go_wp2_with fail;go_region;clear c1 q0;go_wp2_with fail;refine(CF.out _ M2.drew).mono ?_;rintro e w5⟨q2,p2,fv,er,rfl,HQ,hb5⟩;have D5:=aa hb5 D2.drew;have L5:=L2.drew.keep hb5;have zN:w.heap.size+1+1<(World.heap (((w.alloc (.cells #[(i:Int),q] 27)).alloc (pkC ⟨s,dd,sp,dp⟩)).alloc lvC).drew).size:=L2.lt;have zM:w.heap.size<=(World.heap (((w.alloc (.cells #[(i:Int),q] 27)).alloc (pkC ⟨s,dd,sp,dp⟩)).alloc lvC).drew).size:=by omega
 obtain⟨⟨l0,l1,l2,l3,l4,l5⟩,⟨f0,f1,f2,f3,f4,f5⟩⟩:=L5.six;obtain⟨ps,pd,psp,pdp⟩:=p2;rcases HQ.out.2.1 with rfl|⟨fn,cp,rfl⟩
 ·go_wp2_with fail;refine bodyPost_ret (v:=.tuple #[.agg #[q2,ps,pd,psp,pdp,.nilFunc],er]) (by simp[results,results116,go_sem,l0,l1,l2,l3,l4,l5]) rfl ⟨q2,⟨ps,pd,psp,pdp⟩,_,er,rfl,?_,?_⟩
  ·exact cl HQ.out zN zM (λb hb=>bK hb _ _ _ _ _ _)
  ·go_grown
 ·go_wp2_with fail;refine bodyPost_ret (v:=.tuple #[.agg #[q2,ps,pd,psp,pdp,.func fn #[] cp],er]) (by simp[results,results116,go_sem,l0,l1,l2,l3,l4,l5]) rfl ⟨q2,⟨ps,pd,psp,pdp⟩,_,er,rfl,?_,?_⟩
  ·exact cl HQ.out zN zM (λb hb=>bK hb _ _ _ _ _ _)
  ·go_grown
theorem rP(m:Mp)(ds:List Dv)(ls:List Lk)(n:Nat)(M:Mnd)(i:Nat)(d:Dv)(q:Int)(p:Pk)(c:Int)(r:SR)(w:World)(hM:Hid (MemAt w m ds ls n M))(hx:Hid (ds[i]?=some d))(hk:d.kind=5)(hq:(q == 0)=true)
  (CF:Hid (∀W,MemAt W m ds ls n M->Cl 149 #[.pointer (some ⟨m.B,m.z,none⟩),(i:Int),pkV p,c] W (aP m W r))) :
  Cl 116 #[.pointer (some ⟨m.B,m.z,none⟩),plA (i:Int) q,pkV p,c] w (aP m w r):=by
 have M2:=((hM.out.alloc (.cells #[(i:Int),q] 27)).alloc (pkC p)).alloc lvC;have D2:=Below.alN (Below.alN (Below.alN (Below.refl w w) (.cells #[(i:Int),q] 27)) (pkC p)) lvC;have L2:=ax ((w.alloc (.cells #[(i:Int),q] 27)).alloc (pkC p)) #[.int .i64 0,.int .i64 0,.int .i64 0,.int .i64 0,.int .i64 0,.nilFunc] 214 (w.heap.size+1+1) (by simp);obtain⟨q0,_,_,_,_⟩:=M2.cells;obtain⟨b,o,vb,vr,vt,eA,HD,k1,k2⟩:=M2.dev hx.out;rw[eA]at q0;obtain⟨c0,c1,c2,c3,c4,c5,c6,s1,s2,s3⟩:=HD;rw[hk]at c1;obtain⟨s,dd,sp,dp⟩:=p;clear hM hx eA s1 s2 s3 c0 c2 c3 c4 c5 c6;go_enter func116,ntmps116;go_wp2_with fail;go_region;clear c1 q0;go_wp2_with fail;refine(CF.out _ M2.drew).mono ?_;rintro e w5⟨q2,p2,fv,er,rfl,HQ,hb5⟩;have D5:=aa hb5 D2.drew;have L5:=L2.drew.keep hb5;have zN:w.heap.size+1+1<(World.heap (((w.alloc (.cells #[(i:Int),q] 27)).alloc (pkC ⟨s,dd,sp,dp⟩)).alloc lvC).drew).size:=L2.lt;have zM:w.heap.size<=(World.heap (((w.alloc (.cells #[(i:Int),q] 27)).alloc (pkC ⟨s,dd,sp,dp⟩)).alloc lvC).drew).size:=by omega
 obtain⟨⟨l0,l1,l2,l3,l4,l5⟩,⟨f0,f1,f2,f3,f4,f5⟩⟩:=L5.six;obtain⟨ps,pd,psp,pdp⟩:=p2;rcases HQ.out.2.1 with rfl|⟨fn,cp,rfl⟩
 ·go_wp2_with fail;refine bodyPost_ret (v:=.tuple #[.agg #[q2,ps,pd,psp,pdp,.nilFunc],er]) (by simp[results,results116,go_sem,l0,l1,l2,l3,l4,l5]) rfl ⟨q2,⟨ps,pd,psp,pdp⟩,_,er,rfl,?_,?_⟩
  ·exact cl HQ.out zN zM (λb hb=>bK hb _ _ _ _ _ _)
  ·go_grown
 ·go_wp2_with fail;refine bodyPost_ret (v:=.tuple #[.agg #[q2,ps,pd,psp,pdp,.func fn #[] cp],er]) (by simp[results,results116,go_sem,l0,l1,l2,l3,l4,l5]) rfl ⟨q2,⟨ps,pd,psp,pdp⟩,_,er,rfl,?_,?_⟩
  ·exact cl HQ.out zN zM (λb hb=>bK hb _ _ _ _ _ _)
  ·go_grown
theorem rQ(m:Mp)(ds:List Dv)(ls:List Lk)(n:Nat)(M:Mnd)(i:Nat)(d:Dv)(q:Int)(p:Pk)(c:Int)(r:SR)(w:World)(hM:Hid (MemAt w m ds ls n M))(hx:Hid (ds[i]?=some d))(hk:d.kind=5)(hq:(q == 0)=false)
  (CF:Hid (∀W,MemAt W m ds ls n M->Cl 150 #[.pointer (some ⟨m.B,m.z,none⟩),(i:Int),pkV p] W (aP m W r))) :
  Cl 116 #[.pointer (some ⟨m.B,m.z,none⟩),plA (i:Int) q,pkV p,c] w (aP m w r):=by
 have M2:=((hM.out.alloc (.cells #[(i:Int),q] 27)).alloc (pkC p)).alloc lvC;have D2:=Below.alN (Below.alN (Below.alN (Below.refl w w) (.cells #[(i:Int),q] 27)) (pkC p)) lvC;have L2:=ax ((w.alloc (.cells #[(i:Int),q] 27)).alloc (pkC p)) #[.int .i64 0,.int .i64 0,.int .i64 0,.int .i64 0,.int .i64 0,.nilFunc] 214 (w.heap.size+1+1) (by simp);obtain⟨q0,_,_,_,_⟩:=M2.cells;obtain⟨b,o,vb,vr,vt,eA,HD,k1,k2⟩:=M2.dev hx.out;rw[eA]at q0;obtain⟨c0,c1,c2,c3,c4,c5,c6,s1,s2,s3⟩:=HD;rw[hk]at c1;obtain⟨s,dd,sp,dp⟩:=p;clear hM hx eA s1 s2 s3 c0 c2 c3 c4 c5 c6;go_enter func116,ntmps116;go_wp2_with fail;go_region;clear c1 q0;go_wp2_with fail;refine(CF.out _ M2.drew).mono ?_;rintro e w5⟨q2,p2,fv,er,rfl,HQ,hb5⟩;have D5:=aa hb5 D2.drew;have L5:=L2.drew.keep hb5;have zN:w.heap.size+1+1<(World.heap (((w.alloc (.cells #[(i:Int),q] 27)).alloc (pkC ⟨s,dd,sp,dp⟩)).alloc lvC).drew).size:=L2.lt;have zM:w.heap.size<=(World.heap (((w.alloc (.cells #[(i:Int),q] 27)).alloc (pkC ⟨s,dd,sp,dp⟩)).alloc lvC).drew).size:=by omega
 obtain⟨⟨l0,l1,l2,l3,l4,l5⟩,⟨f0,f1,f2,f3,f4,f5⟩⟩:=L5.six;obtain⟨ps,pd,psp,pdp⟩:=p2;rcases HQ.out.2.1 with rfl|⟨fn,cp,rfl⟩
 ·go_wp2_with fail;refine bodyPost_ret (v:=.tuple #[.agg #[q2,ps,pd,psp,pdp,.nilFunc],er]) (by simp[results,results116,go_sem,l0,l1,l2,l3,l4,l5]) rfl ⟨q2,⟨ps,pd,psp,pdp⟩,_,er,rfl,?_,?_⟩
  ·exact cl HQ.out zN zM (λb hb=>bK hb _ _ _ _ _ _)
  ·go_grown
 ·go_wp2_with fail;refine bodyPost_ret (v:=.tuple #[.agg #[q2,ps,pd,psp,pdp,.func fn #[] cp],er]) (by simp[results,results116,go_sem,l0,l1,l2,l3,l4,l5]) rfl ⟨q2,⟨ps,pd,psp,pdp⟩,_,er,rfl,?_,?_⟩
  ·exact cl HQ.out zN zM (λb hb=>bK hb _ _ _ _ _ _)
  ·go_grown
theorem rR(m:Mp)(ds:List Dv)(ls:List Lk)(n:Nat)(M:Mnd)(i:Nat)(d:Dv)(q:Int)(p:Pk)(c:Int)(r:SR)(w:World)(hM:Hid (MemAt w m ds ls n M))(hx:Hid (ds[i]?=some d))(hk:¬(d.kind=2\/d.kind=3\/d.kind=4\/d.kind=5))
  (CF:Hid (∀W,MemAt W m ds ls n M->Cl 151 #[] W (aP m W r))) :
  Cl 116 #[.pointer (some ⟨m.B,m.z,none⟩),plA (i:Int) q,pkV p,c] w (aP m w r):=by
 have M2:=((hM.out.alloc (.cells #[(i:Int),q] 27)).alloc (pkC p)).alloc lvC;have D2:=Below.alN (Below.alN (Below.alN (Below.refl w w) (.cells #[(i:Int),q] 27)) (pkC p)) lvC;have L2:=ax ((w.alloc (.cells #[(i:Int),q] 27)).alloc (pkC p)) #[.int .i64 0,.int .i64 0,.int .i64 0,.int .i64 0,.int .i64 0,.nilFunc] 214 (w.heap.size+1+1) (by simp);obtain⟨q0,_,_,_,_⟩:=M2.cells;obtain⟨b,o,vb,vr,vt,eA,HD,k1,k2⟩:=M2.dev hx.out;rw[eA]at q0;obtain⟨c0,c1,c2,c3,c4,c5,c6,s1,s2,s3⟩:=HD;have kk2:(d.kind == 2)=false:=by simp;omega
 have kk3:(d.kind == 3)=false:=by simp;omega
 have kk4:(d.kind == 4)=false:=by simp;omega
 have kk5:(d.kind == 5)=false:=by simp;omega
 clear hk;generalize d.kind=kd at *;obtain⟨s,dd,sp,dp⟩:=p;clear hM hx eA s1 s2 s3 c0 c2 c3 c4 c5 c6;go_enter func116,ntmps116;go_wp2_with fail;go_region;clear c1 q0;go_wp2_with fail;refine(CF.out _ M2.drew).mono ?_;rintro e w5⟨q2,p2,fv,er,rfl,HQ,hb5⟩;have D5:=aa hb5 D2.drew;have L5:=L2.drew.keep hb5;have zN:w.heap.size+1+1<(World.heap (((w.alloc (.cells #[(i:Int),q] 27)).alloc (pkC ⟨s,dd,sp,dp⟩)).alloc lvC).drew).size:=L2.lt;have zM:w.heap.size<=(World.heap (((w.alloc (.cells #[(i:Int),q] 27)).alloc (pkC ⟨s,dd,sp,dp⟩)).alloc lvC).drew).size:=by omega
 obtain⟨⟨l0,l1,l2,l3,l4,l5⟩,⟨f0,f1,f2,f3,f4,f5⟩⟩:=L5.six;obtain⟨ps,pd,psp,pdp⟩:=p2;rcases HQ.out.2.1 with rfl|⟨fn,cp,rfl⟩
 ·go_wp2_with fail;refine bodyPost_ret (v:=.tuple #[.agg #[q2,ps,pd,psp,pdp,.nilFunc],er]) (by simp[results,results116,go_sem,l0,l1,l2,l3,l4,l5]) rfl ⟨q2,⟨ps,pd,psp,pdp⟩,_,er,rfl,?_,?_⟩
  ·exact cl HQ.out zN zM (λb hb=>bK hb _ _ _ _ _ _)
  ·go_grown
 ·go_wp2_with fail;refine bodyPost_ret (v:=.tuple #[.agg #[q2,ps,pd,psp,pdp,.func fn #[] cp],er]) (by simp[results,results116,go_sem,l0,l1,l2,l3,l4,l5]) rfl ⟨q2,⟨ps,pd,psp,pdp⟩,_,er,rfl,?_,?_⟩
  ·exact cl HQ.out zN zM (λb hb=>bK hb _ _ _ _ _ _)
  ·go_grown
end Go.Proofs.YtjmclcmgpaofiaaGreat
