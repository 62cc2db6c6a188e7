/-
  XAI.
-/
import Derived.Test.YtppbfikimalojaaGreatXLy
import Derived.Test.YtppbfikimalojaaGreatXAA
import Derived.Test.YtppbfikimalojaaGreatXAF
import Derived.Test.YtppbfikimalojaaGreatXAG
import Derived.Test.YtppbfikimalojaaGreatXAH
import Derived.Deep.WholeRow
import Derived.Deep.MidRow
import Derived.Deep.DeepCutAuto
import Derived.BigQuiet
import Derived.ChangeKeysEq
set_option maxHeartbeats 8000000
set_option maxRecDepth 100000
namespace Go.Proofs.YtppbfikimalojaaGreat
open Tryz
open Go.RowKit
theorem Three.cells{w:World}{n:Nat}{a b c:Value}(h:Three w n a b c):w.cell? ⟨n,0,none⟩=some a/\w.cell? ⟨n,1,none⟩=some b/\w.cell? ⟨n,2,none⟩=some c:=h.2
theorem Three.lt{w:World}{n:Nat}{a b c:Value}(h:Three w n a b c):n<w.heap.size:=h.1
abbrev rtw(v b p:Int):Value:=.agg #[.int .i64 v,.int .i64 b,.int .i64 p]
theorem vw(a b:Nat)(ha:a<9223372036854775808)(hb:b<9223372036854775808):Go.bits .and .i64 (a:Int) (b:Int)=((a &&& b:Nat):Int):=by
 have e1:BitVec.ofInt 64 (a:Int)=BitVec.ofNat 64 a:=by simp
 have e2:BitVec.ofInt 64 (b:Int)=BitVec.ofNat 64 b:=by simp
 have hle:a &&& b<=a:=Nat.and_le_left;have hm:(BitVec.ofNat 64 a &&& BitVec.ofNat 64 b).toNat=a &&& b:=by
  simp[BitVec.toNat_and,Nat.mod_eq_of_lt (show a<18446744073709551616 by omega),Nat.mod_eq_of_lt (show b<18446744073709551616 by omega)]
 show IntKind.i64.wrap ((BitVec.ofInt 64 (a:Int) &&& BitVec.ofInt 64 (b:Int)).toNat:Int)=_;rw[e1,e2,hm,IntWalk.i64_in _ (by omega)]
theorem dW(v:Int)(k m:Nat)(h0:0<=v)(h1:v<16)(hm:m+1=2 ^ k)(hk:m<16):(Go.bits .and .i64 v (m:Int) == 0)=decide (v % ((m+1:Nat):Int)=0):=by
 obtain⟨n,rfl⟩:∃n:Nat,v=n:=⟨v.toNat,by omega⟩;rw[vw n m (by omega) (by omega)];have e:m=2 ^ k-1:=by omega
 have e2:n &&& m=n % (m+1):=by rw[hm,e,Nat.and_two_pow_sub_one_eq_mod]
 rw[e2,Bool.eq_iff_iff];simp
theorem fY(v p:Int)(w:World):Calls prog 193 #[rtw v 4 p] w λe w'=>e=.returned (.int .i64 0)/\Below w.heap.size w w':=by
 go_enter func193,ntmps193;go_wp2_with fail;go_ret;exact⟨rfl,by go_grown⟩
theorem dX(v b p d m n:Int)(w:World)(hm:(m=0/\n=1)\/(m=1/\n=2)\/(m=2/\n=4)\/(m=3/\n=8)\/(m=4/\n=16))(BE:Hid (∀w,Calls prog 193 #[rtw v b p] w λe w'=>e=.returned (.int .i64 m)/\Below w.heap.size w w'))(E:Hid (takesB ⟨v,b,p⟩ d=(d / n == v / n))):Calls prog 230 #[rtw v b p,.int .i64 d] w λe w'=>e=.returned (.bool (takesB ⟨v,b,p⟩ d))/\Below w.heap.size w w':=by
 have D0:=(Below.al (Below.refl w.heap.size w) (.cells #[.int .i64 v,.int .i64 b,.int .i64 p] 210)).drew;have T0:=(aa w (.int .i64 v) (.int .i64 b) (.int .i64 p) 210).drew;rcases hm with⟨rfl,rfl⟩|⟨rfl,rfl⟩|⟨rfl,rfl⟩|⟨rfl,rfl⟩|⟨rfl,rfl⟩
 all_goals
  go_enter func230,ntmps230;go_wp2_with fail;go_region_held3 (λw'=>w'.cell? ⟨w.heap.size,0,none⟩=some (.int .i64 v)/\w'.cell? ⟨w.heap.size,1,none⟩=some (.int .i64 b)/\w'.cell? ⟨w.heap.size,2,none⟩=some (.int .i64 p)) (exact Three.cells (n:=w.heap.size) ‹_›)
   (first|(go_at_call 193;refine(BE.out _).mono ?_;rintro e wz⟨rfl,hbz⟩;have Dz:=chn hbz ‹_›;have Pz:=aw (n:=w.heap.size) hbz (Three.lt ‹_›) ‹_›;clear hbz))
  go_wp2_with fail;go_ret;exact⟨by rw[E.out];simp,by assumption⟩
theorem fZ(v p:Int)(w:World):Calls prog 193 #[rtw v 3 p] w λe w'=>e=.returned (.int .i64 1)/\Below w.heap.size w w':=by
 go_enter func193,ntmps193;go_wp2_with fail;go_ret;exact⟨rfl,by go_grown⟩
theorem gb(v p:Int)(w:World):Calls prog 193 #[rtw v 2 p] w λe w'=>e=.returned (.int .i64 2)/\Below w.heap.size w w':=by
 go_enter func193,ntmps193;go_wp2_with fail;go_ret;exact⟨rfl,by go_grown⟩
theorem gd(v p:Int)(w:World):Calls prog 193 #[rtw v 1 p] w λe w'=>e=.returned (.int .i64 3)/\Below w.heap.size w w':=by
 go_enter func193,ntmps193;go_wp2_with fail;go_ret;exact⟨rfl,by go_grown⟩
theorem ge(v p:Int)(w:World):Calls prog 193 #[rtw v 0 p] w λe w'=>e=.returned (.int .i64 4)/\Below w.heap.size w w':=by
 go_enter func193,ntmps193;go_wp2_with fail;go_ret;exact⟨rfl,by go_grown⟩
theorem isr_a(v b p:Int)(w:World)(h:decide (0<=b)=false):Calls prog 166 #[rtw v b p] w λe w'=>e=.returned (.bool false)/\Below w.heap.size w w':=by
 have D0:=(Below.al (Below.refl w.heap.size w) (.cells #[.int .i64 v,.int .i64 b,.int .i64 p] 210)).drew;have T0:=(aa w (.int .i64 v) (.int .i64 b) (.int .i64 p) 210).drew;go_enter func166,ntmps166;go_wp2_with fail;refine wp_region_held_drew (S:=(λw'=>w'.cell? ⟨w.heap.size,0,none⟩=some (.int .i64 v)/\w'.cell? ⟨w.heap.size,1,none⟩=some (.int .i64 b)/\w'.cell? ⟨w.heap.size,2,none⟩=some (.int .i64 p))) (by kernel_rfl) (Three.cells (n:=w.heap.size) ‹_›) (λhHeld=>?_);refine tk 0 ?_;try simp only[ly]
 refine tk 1 ?_;try simp only[ly]
 refine tk 2 ?_;try simp only[ly]
 refine tk 3 ?_;try simp only[ly]
 refine tk0 4 ?_;try simp only[ly]
 refine tk0 5 ?_;try simp only[ly]
 refine tk0 6 ?_;try simp only[ly]
 refine tk 7 ?_;try simp only[ly]
 refine tk 8 ?_;try simp only[ly]
 refine tk0 9 ?_;try simp only[ly]
 refine tk0 10 ?_;try simp only[ly]
 refine tk0 11 ?_;try simp only[ly]
 refine tk 12 ?_;try simp only[ly]
 refine tk 13 ?_;try simp only[ly]
 refine tk0 14 ?_;try simp only[ly]
 refine tk0 15 ?_;try simp only[ly]
 refine tk0 16 ?_;try simp only[ly]
 refine tk 17 ?_;try simp only[ly]
 refine tk 18 ?_;try simp only[ly]
 refine tk0 19 ?_;try simp only[ly]
 refine tk0 20 ?_;try simp only[ly]
 refine tk0 21 ?_;try simp only[ly]
 refine tk0 22 ?_;try simp only[ly]
 refine tk0 23 ?_;try simp only[ly]
 refine tk0 24 ?_;try simp only[ly]
 refine tk0 25 ?_;try simp only[ly]
 refine tk0 26 ?_;try simp only[ly]
 refine tk 27 ?_;try simp only[ly]
 refine tk 28 ?_;try simp only[ly]
 refine tk0 29 ?_;try simp only[ly]
 refine tk0 30 ?_;try simp only[ly]
 refine tk0 31 ?_;try simp only[ly]
 refine tk 32 ?_;try simp only[ly]
 refine tk 33 ?_;try simp only[ly]
 refine tk0 34 ?_;try simp only[ly]
 refine tk0 35 ?_;try simp only[ly]
 refine tk0 36 ?_;try simp only[ly]
 refine tk 37 ?_;try simp only[ly]
 refine tk 38 ?_;try simp only[ly]
 refine wpAnyH_done (by kernel_rfl) ?_ _
 go_wp2
 go_ret;exact⟨by simp,by assumption⟩
theorem isr_b(v b p:Int)(w:World)(h:decide (0<=b)=true)(h1:decide (b<=4)=false):Calls prog 166 #[rtw v b p] w λe w'=>e=.returned (.bool false)/\Below w.heap.size w w':=by
 have D0:=(Below.al (Below.refl w.heap.size w) (.cells #[.int .i64 v,.int .i64 b,.int .i64 p] 210)).drew;have T0:=(aa w (.int .i64 v) (.int .i64 b) (.int .i64 p) 210).drew;go_enter func166,ntmps166;go_wp2_with fail;refine wp_region_held_drew (S:=(λw'=>w'.cell? ⟨w.heap.size,0,none⟩=some (.int .i64 v)/\w'.cell? ⟨w.heap.size,1,none⟩=some (.int .i64 b)/\w'.cell? ⟨w.heap.size,2,none⟩=some (.int .i64 p))) (by kernel_rfl) (Three.cells (n:=w.heap.size) ‹_›) (λhHeld=>?_);refine tk 0 ?_;try simp only[ly]
 refine tk 1 ?_;try simp only[ly]
 refine tk 2 ?_;try simp only[ly]
 refine tk 3 ?_;try simp only[ly]
 refine tk 4 ?_;try simp only[ly]
 refine tk 5 ?_;try simp only[ly]
 refine tk 6 ?_;try simp only[ly]
 refine tk 7 ?_;try simp only[ly]
 refine tk 8 ?_;try simp only[ly]
 refine tk0 9 ?_;try simp only[ly]
 refine tk0 10 ?_;try simp only[ly]
 refine tk0 11 ?_;try simp only[ly]
 refine tk 12 ?_;try simp only[ly]
 refine tk 13 ?_;try simp only[ly]
 refine tk0 14 ?_;try simp only[ly]
 refine tk0 15 ?_;try simp only[ly]
 refine tk0 16 ?_;try simp only[ly]
 refine tk 17 ?_;try simp only[ly]
 refine tk 18 ?_;try simp only[ly]
 refine tk0 19 ?_;try simp only[ly]
 refine tk0 20 ?_;try simp only[ly]
 refine tk0 21 ?_;try simp only[ly]
 refine tk0 22 ?_;try simp only[ly]
 refine tk0 23 ?_;try simp only[ly]
 refine tk0 24 ?_;try simp only[ly]
 refine tk0 25 ?_;try simp only[ly]
 refine tk0 26 ?_;try simp only[ly]
 refine tk 27 ?_;try simp only[ly]
 refine tk 28 ?_;try simp only[ly]
 refine tk0 29 ?_;try simp only[ly]
 refine tk0 30 ?_;try simp only[ly]
 refine tk0 31 ?_;try simp only[ly]
 refine tk 32 ?_;try simp only[ly]
 refine tk 33 ?_;try simp only[ly]
 refine tk0 34 ?_;try simp only[ly]
 refine tk0 35 ?_;try simp only[ly]
 refine tk0 36 ?_;try simp only[ly]
 refine tk 37 ?_;try simp only[ly]
 refine tk 38 ?_;try simp only[ly]
 refine wpAnyH_done (by kernel_rfl) ?_ _
 go_wp2
 go_ret;exact⟨by simp,by assumption⟩
theorem isr_c(v b p:Int)(w:World)(h:decide (0<=b)=true)(h1:decide (b<=4)=true)(h2:decide (0<=v)=false):Calls prog 166 #[rtw v b p] w λe w'=>e=.returned (.bool false)/\Below w.heap.size w w':=by
 have D0:=(Below.al (Below.refl w.heap.size w) (.cells #[.int .i64 v,.int .i64 b,.int .i64 p] 210)).drew;have T0:=(aa w (.int .i64 v) (.int .i64 b) (.int .i64 p) 210).drew;go_enter func166,ntmps166;go_wp2_with fail;refine wp_region_held_drew (S:=(λw'=>w'.cell? ⟨w.heap.size,0,none⟩=some (.int .i64 v)/\w'.cell? ⟨w.heap.size,1,none⟩=some (.int .i64 b)/\w'.cell? ⟨w.heap.size,2,none⟩=some (.int .i64 p))) (by kernel_rfl) (Three.cells (n:=w.heap.size) ‹_›) (λhHeld=>?_);refine tk 0 ?_;try simp only[ly]
 refine tk 1 ?_;try simp only[ly]
 refine tk 2 ?_;try simp only[ly]
 refine tk 3 ?_;try simp only[ly]
 refine tk 4 ?_;try simp only[ly]
 refine tk 5 ?_;try simp only[ly]
 refine tk 6 ?_;try simp only[ly]
 refine tk 7 ?_;try simp only[ly]
 refine tk 8 ?_;try simp only[ly]
 refine tk 9 ?_;try simp only[ly]
 refine tk 10 ?_;try simp only[ly]
 refine tk 11 ?_;try simp only[ly]
 refine tk 12 ?_;try simp only[ly]
 refine tk 13 ?_;try simp only[ly]
 refine tk0 14 ?_;try simp only[ly]
 refine tk0 15 ?_;try simp only[ly]
 refine tk0 16 ?_;try simp only[ly]
 refine tk 17 ?_;try simp only[ly]
 refine tk 18 ?_;try simp only[ly]
 refine tk0 19 ?_;try simp only[ly]
 refine tk0 20 ?_;try simp only[ly]
 refine tk0 21 ?_;try simp only[ly]
 refine tk0 22 ?_;try simp only[ly]
 refine tk0 23 ?_;try simp only[ly]
 refine tk0 24 ?_;try simp only[ly]
 refine tk0 25 ?_;try simp only[ly]
 refine tk0 26 ?_;try simp only[ly]
 refine tk 27 ?_;try simp only[ly]
 refine tk 28 ?_;try simp only[ly]
 refine tk0 29 ?_;try simp only[ly]
 refine tk0 30 ?_;try simp only[ly]
 refine tk0 31 ?_;try simp only[ly]
 refine tk 32 ?_;try simp only[ly]
 refine tk 33 ?_;try simp only[ly]
 refine tk0 34 ?_;try simp only[ly]
 refine tk0 35 ?_;try simp only[ly]
 refine tk0 36 ?_;try simp only[ly]
 refine tk 37 ?_;try simp only[ly]
 refine tk 38 ?_;try simp only[ly]
 refine wpAnyH_done (by kernel_rfl) ?_ _
 go_wp2
 go_ret;exact⟨by simp,by assumption⟩
theorem isr_d(v b p:Int)(w:World)(h:decide (0<=b)=true)(h1:decide (b<=4)=true)(h2:decide (0<=v)=true)(h3:decide (v<16)=false):Calls prog 166 #[rtw v b p] w λe w'=>e=.returned (.bool false)/\Below w.heap.size w w':=by
 have D0:=(Below.al (Below.refl w.heap.size w) (.cells #[.int .i64 v,.int .i64 b,.int .i64 p] 210)).drew;have T0:=(aa w (.int .i64 v) (.int .i64 b) (.int .i64 p) 210).drew;go_enter func166,ntmps166;go_wp2_with fail;refine wp_region_held_drew (S:=(λw'=>w'.cell? ⟨w.heap.size,0,none⟩=some (.int .i64 v)/\w'.cell? ⟨w.heap.size,1,none⟩=some (.int .i64 b)/\w'.cell? ⟨w.heap.size,2,none⟩=some (.int .i64 p))) (by kernel_rfl) (Three.cells (n:=w.heap.size) ‹_›) (λhHeld=>?_);refine tk 0 ?_;try simp only[ly]
 refine tk 1 ?_;try simp only[ly]
 refine tk 2 ?_;try simp only[ly]
 refine tk 3 ?_;try simp only[ly]
 refine tk 4 ?_;try simp only[ly]
 refine tk 5 ?_;try simp only[ly]
 refine tk 6 ?_;try simp only[ly]
 refine tk 7 ?_;try simp only[ly]
 refine tk 8 ?_;try simp only[ly]
 refine tk 9 ?_;try simp only[ly]
 refine tk 10 ?_;try simp only[ly]
 refine tk 11 ?_;try simp only[ly]
 refine tk 12 ?_;try simp only[ly]
 refine tk 13 ?_;try simp only[ly]
 refine tk 14 ?_;try simp only[ly]
 refine tk 15 ?_;try simp only[ly]
 refine tk 16 ?_;try simp only[ly]
 refine tk 17 ?_;try simp only[ly]
 refine tk 18 ?_;try simp only[ly]
 refine tk0 19 ?_;try simp only[ly]
 refine tk0 20 ?_;try simp only[ly]
 refine tk0 21 ?_;try simp only[ly]
 refine tk0 22 ?_;try simp only[ly]
 refine tk0 23 ?_;try simp only[ly]
 refine tk0 24 ?_;try simp only[ly]
 refine tk0 25 ?_;try simp only[ly]
 refine tk0 26 ?_;try simp only[ly]
 refine tk 27 ?_;try simp only[ly]
 refine tk 28 ?_;try simp only[ly]
 refine tk0 29 ?_;try simp only[ly]
 refine tk0 30 ?_;try simp only[ly]
 refine tk0 31 ?_;try simp only[ly]
 refine tk 32 ?_;try simp only[ly]
 refine tk 33 ?_;try simp only[ly]
 refine tk0 34 ?_;try simp only[ly]
 refine tk0 35 ?_;try simp only[ly]
 refine tk0 36 ?_;try simp only[ly]
 refine tk 37 ?_;try simp only[ly]
 refine tk 38 ?_;try simp only[ly]
 refine wpAnyH_done (by kernel_rfl) ?_ _
 go_wp2
 go_ret;exact⟨by simp,by assumption⟩
theorem dY(v b p m n:Int)(w:World)(h0:decide (0≤b)=true)(h1:decide (b≤4)=true)(h2:decide (0<=v)=true)(h3:decide (v<16)=true)(hm:(m=0/\n=1)\/(m=1/\n=2)\/(m=2/\n=4)\/(m=3/\n=8)\/(m=4/\n=16))(BE:Hid (∀w,Calls prog 193 #[rtw v b p] w λe w'=>e=.returned (.int .i64 m)/\Below w.heap.size w w'))(h4:(Go.bits .and .i64 v (IntKind.i64.wrap (IntKind.i64.wrap n-1)) == 0)=false):Calls prog 166 #[rtw v b p] w λe w'=>e=.returned (.bool false)/\Below w.heap.size w w':=by
 have D0:=(Below.al (Below.refl w.heap.size w) (.cells #[.int .i64 v,.int .i64 b,.int .i64 p] 210)).drew;have T0:=(aa w (.int .i64 v) (.int .i64 b) (.int .i64 p) 210).drew;rcases hm with⟨rfl,rfl⟩|⟨rfl,rfl⟩|⟨rfl,rfl⟩|⟨rfl,rfl⟩|⟨rfl,rfl⟩
 all_goals
  go_enter func166,ntmps166;go_wp2_with fail;refine wp_region_held_drew (S:=(λw'=>w'.cell? ⟨w.heap.size,0,none⟩=some (.int .i64 v)/\w'.cell? ⟨w.heap.size,1,none⟩=some (.int .i64 b)/\w'.cell? ⟨w.heap.size,2,none⟩=some (.int .i64 p))) (by kernel_rfl) (Three.cells (n:=w.heap.size) ‹_›) (λhHeld=>?_);refine tk 0 ?_;try simp only[ly]
  refine tk 1 ?_;try simp only[ly]
  refine tk 2 ?_;try simp only[ly]
  refine tk 3 ?_;try simp only[ly]
  refine tk 4 ?_;try simp only[ly]
  refine tk 5 ?_;try simp only[ly]
  refine tk 6 ?_;try simp only[ly]
  refine tk 7 ?_;try simp only[ly]
  refine tk 8 ?_;try simp only[ly]
  refine tk 9 ?_;try simp only[ly]
  refine tk 10 ?_;try simp only[ly]
  refine tk 11 ?_;try simp only[ly]
  refine tk 12 ?_;try simp only[ly]
  refine tk 13 ?_;try simp only[ly]
  refine tk 14 ?_;try simp only[ly]
  refine tk 15 ?_;try simp only[ly]
  refine tk 16 ?_;try simp only[ly]
  refine tk 17 ?_;try simp only[ly]
  refine tk 18 ?_;try simp only[ly]
  refine tk 19 ?_;try simp only[ly]
  refine tk 20 ?_;try simp only[ly]
  refine tk 21 ?_;try simp only[ly]
  refine rd 22 (λK hK=>?_);go_simp;refine(BE.out _).mono ?_;rintro e wz⟨rfl,hbz⟩;have Dz:=chn hbz ‹_›;have Pz:=aw (n:=w.heap.size) hbz (Three.lt ‹_›) ‹_›;clear hbz;try go_wp2_with fail
  clear hHeld;refine hK.out _ _ (Three.cells (n:=w.heap.size) ‹_›) (λhHeld=>?_);clear hK K;try simp only[ly]
  refine tk 23 ?_;try simp only[ly]
  refine tk 24 ?_;try simp only[ly]
  refine tk 25 ?_;try simp only[ly]
  refine tk 26 ?_;try simp only[ly]
  refine tk 27 ?_;try simp only[ly]
  refine tk 28 ?_;try simp only[ly]
  refine tk0 29 ?_;try simp only[ly]
  refine tk0 30 ?_;try simp only[ly]
  refine tk0 31 ?_;try simp only[ly]
  refine tk 32 ?_;try simp only[ly]
  refine tk 33 ?_;try simp only[ly]
  refine tk0 34 ?_;try simp only[ly]
  refine tk0 35 ?_;try simp only[ly]
  refine tk0 36 ?_;try simp only[ly]
  refine tk 37 ?_;try simp only[ly]
  refine tk 38 ?_;try simp only[ly]
  refine wpAnyH_done (by kernel_rfl) ?_ _
  go_wp2
  go_ret;exact⟨by simp,by assumption⟩
theorem dZ(v b p m n:Int)(w:World)(h0:decide (0≤b)=true)(h1:decide (b≤4)=true)(h2:decide (0<=v)=true)(h3:decide (v<16)=true)(hm:(m=0/\n=1)\/(m=1/\n=2)\/(m=2/\n=4)\/(m=3/\n=8)\/(m=4/\n=16))(BE:Hid (∀w,Calls prog 193 #[rtw v b p] w λe w'=>e=.returned (.int .i64 m)/\Below w.heap.size w w'))(h4:(Go.bits .and .i64 v (IntKind.i64.wrap (IntKind.i64.wrap n-1)) == 0)=true)(h5:decide (0<=p)=false):Calls prog 166 #[rtw v b p] w λe w'=>e=.returned (.bool false)/\Below w.heap.size w w':=by
 have D0:=(Below.al (Below.refl w.heap.size w) (.cells #[.int .i64 v,.int .i64 b,.int .i64 p] 210)).drew;have T0:=(aa w (.int .i64 v) (.int .i64 b) (.int .i64 p) 210).drew;rcases hm with⟨rfl,rfl⟩|⟨rfl,rfl⟩|⟨rfl,rfl⟩|⟨rfl,rfl⟩|⟨rfl,rfl⟩
 all_goals
  go_enter func166,ntmps166;go_wp2_with fail;refine wp_region_held_drew (S:=(λw'=>w'.cell? ⟨w.heap.size,0,none⟩=some (.int .i64 v)/\w'.cell? ⟨w.heap.size,1,none⟩=some (.int .i64 b)/\w'.cell? ⟨w.heap.size,2,none⟩=some (.int .i64 p))) (by kernel_rfl) (Three.cells (n:=w.heap.size) ‹_›) (λhHeld=>?_);refine tk 0 ?_;try simp only[ly]
  refine tk 1 ?_;try simp only[ly]
  refine tk 2 ?_;try simp only[ly]
  refine tk 3 ?_;try simp only[ly]
  refine tk 4 ?_;try simp only[ly]
  refine tk 5 ?_;try simp only[ly]
  refine tk 6 ?_;try simp only[ly]
  refine tk 7 ?_;try simp only[ly]
  refine tk 8 ?_;try simp only[ly]
  refine tk 9 ?_;try simp only[ly]
  refine tk 10 ?_;try simp only[ly]
  refine tk 11 ?_;try simp only[ly]
  refine tk 12 ?_;try simp only[ly]
  refine tk 13 ?_;try simp only[ly]
  refine tk 14 ?_;try simp only[ly]
  refine tk 15 ?_;try simp only[ly]
  refine tk 16 ?_;try simp only[ly]
  refine tk 17 ?_;try simp only[ly]
  refine tk 18 ?_;try simp only[ly]
  refine tk 19 ?_;try simp only[ly]
  refine tk 20 ?_;try simp only[ly]
  refine tk 21 ?_;try simp only[ly]
  refine rd 22 (λK hK=>?_);go_simp;refine(BE.out _).mono ?_;rintro e wz⟨rfl,hbz⟩;have Dz:=chn hbz ‹_›;have Pz:=aw (n:=w.heap.size) hbz (Three.lt ‹_›) ‹_›;clear hbz;try go_wp2_with fail
  clear hHeld;refine hK.out _ _ (Three.cells (n:=w.heap.size) ‹_›) (λhHeld=>?_);clear hK K;try simp only[ly]
  refine tk 23 ?_;try simp only[ly]
  refine tk 24 ?_;try simp only[ly]
  refine tk 25 ?_;try simp only[ly]
  refine tk 26 ?_;try simp only[ly]
  refine tk 27 ?_;try simp only[ly]
  refine tk 28 ?_;try simp only[ly]
  refine tk 29 ?_;try simp only[ly]
  refine tk 30 ?_;try simp only[ly]
  refine tk 31 ?_;try simp only[ly]
  refine tk 32 ?_;try simp only[ly]
  refine tk 33 ?_;try simp only[ly]
  refine tk0 34 ?_;try simp only[ly]
  refine tk0 35 ?_;try simp only[ly]
  refine tk0 36 ?_;try simp only[ly]
  refine tk 37 ?_;try simp only[ly]
  refine tk 38 ?_;try simp only[ly]
  refine wpAnyH_done (by kernel_rfl) ?_ _
  go_wp2
  go_ret;exact⟨by simp,by assumption⟩
theorem ec(v b p m n:Int)(w:World)(h0:decide (0≤b)=true)(h1:decide (b≤4)=true)(h2:decide (0<=v)=true)(h3:decide (v<16)=true)(hm:(m=0/\n=1)\/(m=1/\n=2)\/(m=2/\n=4)\/(m=3/\n=8)\/(m=4/\n=16))(BE:Hid (∀w,Calls prog 193 #[rtw v b p] w λe w'=>e=.returned (.int .i64 m)/\Below w.heap.size w w'))(h4:(Go.bits .and .i64 v (IntKind.i64.wrap (IntKind.i64.wrap n-1)) == 0)=true)(h5:decide (0<=p)=true):Calls prog 166 #[rtw v b p] w λe w'=>e=.returned (.bool (decide (p<4)))/\Below w.heap.size w w':=by
 have D0:=(Below.al (Below.refl w.heap.size w) (.cells #[.int .i64 v,.int .i64 b,.int .i64 p] 210)).drew;have T0:=(aa w (.int .i64 v) (.int .i64 b) (.int .i64 p) 210).drew;rcases hm with⟨rfl,rfl⟩|⟨rfl,rfl⟩|⟨rfl,rfl⟩|⟨rfl,rfl⟩|⟨rfl,rfl⟩
 all_goals
  go_enter func166,ntmps166;go_wp2_with fail;refine wp_region_held_drew (S:=(λw'=>w'.cell? ⟨w.heap.size,0,none⟩=some (.int .i64 v)/\w'.cell? ⟨w.heap.size,1,none⟩=some (.int .i64 b)/\w'.cell? ⟨w.heap.size,2,none⟩=some (.int .i64 p))) (by kernel_rfl) (Three.cells (n:=w.heap.size) ‹_›) (λhHeld=>?_);refine tk 0 ?_;try simp only[ly]
  refine tk 1 ?_;try simp only[ly]
  refine tk 2 ?_;try simp only[ly]
  refine tk 3 ?_;try simp only[ly]
  refine tk 4 ?_;try simp only[ly]
  refine tk 5 ?_;try simp only[ly]
  refine tk 6 ?_;try simp only[ly]
  refine tk 7 ?_;try simp only[ly]
  refine tk 8 ?_;try simp only[ly]
  refine tk 9 ?_;try simp only[ly]
  refine tk 10 ?_;try simp only[ly]
  refine tk 11 ?_;try simp only[ly]
  refine tk 12 ?_;try simp only[ly]
  refine tk 13 ?_;try simp only[ly]
  refine tk 14 ?_;try simp only[ly]
  refine tk 15 ?_;try simp only[ly]
  refine tk 16 ?_;try simp only[ly]
  refine tk 17 ?_;try simp only[ly]
  refine tk 18 ?_;try simp only[ly]
  refine tk 19 ?_;try simp only[ly]
  refine tk 20 ?_;try simp only[ly]
  refine tk 21 ?_;try simp only[ly]
  refine rd 22 (λK hK=>?_);go_simp;refine(BE.out _).mono ?_;rintro e wz⟨rfl,hbz⟩;have Dz:=chn hbz ‹_›;have Pz:=aw (n:=w.heap.size) hbz (Three.lt ‹_›) ‹_›;clear hbz;try go_wp2_with fail
  clear hHeld;refine hK.out _ _ (Three.cells (n:=w.heap.size) ‹_›) (λhHeld=>?_);clear hK K;try simp only[ly]
  refine tk 23 ?_;try simp only[ly]
  refine tk 24 ?_;try simp only[ly]
  refine tk 25 ?_;try simp only[ly]
  refine tk 26 ?_;try simp only[ly]
  refine tk 27 ?_;try simp only[ly]
  refine tk 28 ?_;try simp only[ly]
  refine tk 29 ?_;try simp only[ly]
  refine tk 30 ?_;try simp only[ly]
  refine tk 31 ?_;try simp only[ly]
  refine tk 32 ?_;try simp only[ly]
  refine tk 33 ?_;try simp only[ly]
  refine tk 34 ?_;try simp only[ly]
  refine tk 35 ?_;try simp only[ly]
  refine tk 36 ?_;try simp only[ly]
  refine tk 37 ?_;try simp only[ly]
  refine tk 38 ?_;try simp only[ly]
  refine wpAnyH_done (by kernel_rfl) ?_ _
  go_wp2
  go_ret;exact⟨by simp,by assumption⟩
theorem isr_0(v p:Int)(w:World)(h2:decide (0<=v)=true)(h3:decide (v<16)=true):Calls prog 166 #[rtw v 4 p] w λe w'=>e=.returned (.bool (isR ⟨v,4,p⟩))/\Below w.heap.size w w':=by
 have hm:=dW v 0 0 (of_decide_eq_true h2) (of_decide_eq_true h3) (by decide) (by decide);have e:isR ⟨v,4,p⟩=((Go.bits .and .i64 v (IntKind.i64.wrap (IntKind.i64.wrap 1-1)) == 0)&&decide (0<=p)&&decide (p<4)):=by
  rw[show IntKind.i64.wrap (IntKind.i64.wrap 1-1)=((0:Nat):Int)from rfl,hm];show(decide ((0:Int)<=4)&&decide ((4:Int)<=4)&&decide (0<=v)&&decide (v<16)&&decide (v % 1=0)&&decide (0<=p)&&decide (p<4))=(decide (v % 1=0)&&decide (0<=p)&&decide (p<4));rw[h2,h3];simp
 rw[e];cases h4:(Go.bits .and .i64 v (IntKind.i64.wrap (IntKind.i64.wrap 1-1)) == 0)
 ·exact dY v 4 p 0 1 w rfl rfl h2 h3 (by simp) (λw=>fY v p w) h4
 cases h5:decide (0<=p)
 ·exact dZ v 4 p 0 1 w rfl rfl h2 h3 (by simp) (λw=>fY v p w) h4 h5
 ·exact ec v 4 p 0 1 w rfl rfl h2 h3 (by simp) (λw=>fY v p w) h4 h5
theorem isr_1(v p:Int)(w:World)(h2:decide (0<=v)=true)(h3:decide (v<16)=true):Calls prog 166 #[rtw v 3 p] w λe w'=>e=.returned (.bool (isR ⟨v,3,p⟩))/\Below w.heap.size w w':=by
 have hm:=dW v 1 1 (of_decide_eq_true h2) (of_decide_eq_true h3) (by decide) (by decide);have e:isR ⟨v,3,p⟩=((Go.bits .and .i64 v (IntKind.i64.wrap (IntKind.i64.wrap 2-1)) == 0)&&decide (0<=p)&&decide (p<4)):=by
  rw[show IntKind.i64.wrap (IntKind.i64.wrap 2-1)=((1:Nat):Int)from rfl,hm];show(decide ((0:Int)<=3)&&decide ((3:Int)<=4)&&decide (0<=v)&&decide (v<16)&&decide (v % 2=0)&&decide (0<=p)&&decide (p<4))=(decide (v % 2=0)&&decide (0<=p)&&decide (p<4));rw[h2,h3];simp
 rw[e];cases h4:(Go.bits .and .i64 v (IntKind.i64.wrap (IntKind.i64.wrap 2-1)) == 0)
 ·exact dY v 3 p 1 2 w rfl rfl h2 h3 (by simp) (λw=>fZ v p w) h4
 cases h5:decide (0<=p)
 ·exact dZ v 3 p 1 2 w rfl rfl h2 h3 (by simp) (λw=>fZ v p w) h4 h5
 ·exact ec v 3 p 1 2 w rfl rfl h2 h3 (by simp) (λw=>fZ v p w) h4 h5
theorem isr_2(v p:Int)(w:World)(h2:decide (0<=v)=true)(h3:decide (v<16)=true):Calls prog 166 #[rtw v 2 p] w λe w'=>e=.returned (.bool (isR ⟨v,2,p⟩))/\Below w.heap.size w w':=by
 have hm:=dW v 2 3 (of_decide_eq_true h2) (of_decide_eq_true h3) (by decide) (by decide);have e:isR ⟨v,2,p⟩=((Go.bits .and .i64 v (IntKind.i64.wrap (IntKind.i64.wrap 4-1)) == 0)&&decide (0<=p)&&decide (p<4)):=by
  rw[show IntKind.i64.wrap (IntKind.i64.wrap 4-1)=((3:Nat):Int)from rfl,hm];show(decide ((0:Int)<=2)&&decide ((2:Int)<=4)&&decide (0<=v)&&decide (v<16)&&decide (v % 4=0)&&decide (0<=p)&&decide (p<4))=(decide (v % 4=0)&&decide (0<=p)&&decide (p<4));rw[h2,h3];simp
 rw[e];cases h4:(Go.bits .and .i64 v (IntKind.i64.wrap (IntKind.i64.wrap 4-1)) == 0)
 ·exact dY v 2 p 2 4 w rfl rfl h2 h3 (by simp) (λw=>gb v p w) h4
 cases h5:decide (0<=p)
 ·exact dZ v 2 p 2 4 w rfl rfl h2 h3 (by simp) (λw=>gb v p w) h4 h5
 ·exact ec v 2 p 2 4 w rfl rfl h2 h3 (by simp) (λw=>gb v p w) h4 h5
theorem isr_3(v p:Int)(w:World)(h2:decide (0<=v)=true)(h3:decide (v<16)=true):Calls prog 166 #[rtw v 1 p] w λe w'=>e=.returned (.bool (isR ⟨v,1,p⟩))/\Below w.heap.size w w':=by
 have hm:=dW v 3 7 (of_decide_eq_true h2) (of_decide_eq_true h3) (by decide) (by decide);have e:isR ⟨v,1,p⟩=((Go.bits .and .i64 v (IntKind.i64.wrap (IntKind.i64.wrap 8-1)) == 0)&&decide (0<=p)&&decide (p<4)):=by
  rw[show IntKind.i64.wrap (IntKind.i64.wrap 8-1)=((7:Nat):Int)from rfl,hm];show(decide ((0:Int)<=1)&&decide ((1:Int)<=4)&&decide (0<=v)&&decide (v<16)&&decide (v % 8=0)&&decide (0<=p)&&decide (p<4))=(decide (v % 8=0)&&decide (0<=p)&&decide (p<4));rw[h2,h3];simp
 rw[e];cases h4:(Go.bits .and .i64 v (IntKind.i64.wrap (IntKind.i64.wrap 8-1)) == 0)
 ·exact dY v 1 p 3 8 w rfl rfl h2 h3 (by simp) (λw=>gd v p w) h4
 cases h5:decide (0<=p)
 ·exact dZ v 1 p 3 8 w rfl rfl h2 h3 (by simp) (λw=>gd v p w) h4 h5
 ·exact ec v 1 p 3 8 w rfl rfl h2 h3 (by simp) (λw=>gd v p w) h4 h5
theorem isr_4(v p:Int)(w:World)(h2:decide (0<=v)=true)(h3:decide (v<16)=true):Calls prog 166 #[rtw v 0 p] w λe w'=>e=.returned (.bool (isR ⟨v,0,p⟩))/\Below w.heap.size w w':=by
 have hm:=dW v 4 15 (of_decide_eq_true h2) (of_decide_eq_true h3) (by decide) (by decide);have e:isR ⟨v,0,p⟩=((Go.bits .and .i64 v (IntKind.i64.wrap (IntKind.i64.wrap 16-1)) == 0)&&decide (0<=p)&&decide (p<4)):=by
  rw[show IntKind.i64.wrap (IntKind.i64.wrap 16-1)=((15:Nat):Int)from rfl,hm];show(decide ((0:Int)<=0)&&decide ((0:Int)<=4)&&decide (0<=v)&&decide (v<16)&&decide (v % 16=0)&&decide (0<=p)&&decide (p<4))=(decide (v % 16=0)&&decide (0<=p)&&decide (p<4));rw[h2,h3];simp
 rw[e];cases h4:(Go.bits .and .i64 v (IntKind.i64.wrap (IntKind.i64.wrap 16-1)) == 0)
 ·exact dY v 0 p 4 16 w rfl rfl h2 h3 (by simp) (λw=>ge v p w) h4
 cases h5:decide (0<=p)
 ·exact dZ v 0 p 4 16 w rfl rfl h2 h3 (by simp) (λw=>ge v p w) h4 h5
 ·exact ec v 0 p 4 16 w rfl rfl h2 h3 (by simp) (λw=>ge v p w) h4 h5
theorem lZ(r:Rt)(w:World):Calls prog 166 #[rtv r] w λe w'=>e=.returned (.bool (isR r))/\Below w.heap.size w w':=by
 obtain⟨v,b,p⟩:=r;cases h:decide (0<=b)
 ·rw[show isR ⟨v,b,p⟩=false by simp[isR,h]];exact isr_a v b p w h
 cases h1:decide (b<=4)
 ·rw[show isR ⟨v,b,p⟩=false by simp[isR,h1]];exact isr_b v b p w h h1
 cases h2:decide (0<=v)
 ·rw[show isR ⟨v,b,p⟩=false by simp[isR,h2]];exact isr_c v b p w h h1 h2
 cases h3:decide (v<16)
 ·rw[show isR ⟨v,b,p⟩=false by simp[isR,h3]];exact isr_d v b p w h h1 h2 h3
 have hb:b=0\/b=1\/b=2\/b=3\/b=4:=by
  have:=of_decide_eq_true h;have:=of_decide_eq_true h1;omega
 rcases hb with rfl|rfl|rfl|rfl|rfl
 ·exact isr_4 v p w h2 h3
 ·exact isr_3 v p w h2 h3
 ·exact isr_2 v p w h2 h3
 ·exact isr_1 v p w h2 h3
 ·exact isr_0 v p w h2 h3
theorem vx(r:Rt)(d:Int)(w:World)(hr:isR r=true):Calls prog 230 #[rtv r,.int .i64 d] w λe w'=>e=.returned (.bool (takesB r d))/\Below w.heap.size w w':=by
 have h1:=ii hr;obtain⟨v,b,p⟩:=r;simp only at h1;have hb:b=0\/b=1\/b=2\/b=3\/b=4:=by omega
 rcases hb with rfl|rfl|rfl|rfl|rfl
 ·exact dX v 0 p d 4 16 w (by simp) (λw=>ge v p w) (by show decide (d / 16=v / 16)=_;rw[Bool.eq_iff_iff];simp)
 ·exact dX v 1 p d 3 8 w (by simp) (λw=>gd v p w) (by show decide (d / 8=v / 8)=_;rw[Bool.eq_iff_iff];simp)
 ·exact dX v 2 p d 2 4 w (by simp) (λw=>gb v p w) (by show decide (d / 4=v / 4)=_;rw[Bool.eq_iff_iff];simp)
 ·exact dX v 3 p d 1 2 w (by simp) (λw=>fZ v p w) (by show decide (d / 2=v / 2)=_;rw[Bool.eq_iff_iff];simp)
 ·exact dX v 4 p d 0 1 w (by simp) (λw=>fY v p w) (by show decide (d / 1=v / 1)=_;rw[Bool.eq_iff_iff];simp)
theorem aO{B:Nat}{a w:World}(h:Below B a w)(n:Nat):Below B a (w.drewN n):=h.trans ⟨rfl,rfl,rfl,Nat.le_refl _,λ_ _=>rfl⟩
def BoxR(w:World)(n:Nat)(v m p:Int):Prop:=Three w n (.int .i64 v) (.int .i64 m) (.int .i64 p)/\w.frozen? ⟨n,0,none⟩=false/\w.frozen? ⟨n,1,none⟩=false/\w.frozen? ⟨n,2,none⟩=false
theorem BoxR.below{B:Nat}{W w':World}{n:Nat}{v m p:Int}(h:BoxR W n v m p)(hb:Below B W w')(hB:n<B):BoxR w' n v m p :=
 ⟨aw hb hB h.1,(hb.frozen (p:=⟨n,0,none⟩) hB).trans h.2.1,(hb.frozen (p:=⟨n,1,none⟩) hB).trans h.2.2.1,(hb.frozen (p:=⟨n,2,none⟩) hB).trans h.2.2.2⟩
theorem BoxR.alloc{w:World}{n:Nat}{v m p:Int}(h:BoxR w n v m p)(o:Obj):BoxR (w.alloc o) n v m p:=h.below ((Below.refl _ _).alloc (Nat.le_refl _) o) h.1.1
theorem mc(w:World)(v m p:Int)(t:TypeId):BoxR (w.alloc (.cells #[.int .i64 v,.int .i64 m,.int .i64 p] t)) w.heap.size v m p :=
 ⟨aa w _ _ _ t,by simp[go_sem],by simp[go_sem],by simp[go_sem]⟩
theorem vy{w:World}{n:Nat}{v m p:Int}(h:BoxR w n v m p)(x y z:Int) :
  BoxR (((w.setCell ⟨n,0,none⟩ (.int .i64 x)).setCell ⟨n,1,none⟩ (.int .i64 y)).setCell ⟨n,2,none⟩ (.int .i64 z)) n x y z:=by
 obtain⟨⟨h0,h1,h2,h3⟩,k1,k2,k3⟩:=h;refine⟨⟨by simpa using h0,?_,?_,?_⟩,?_,?_,?_⟩ <;> simp[go_sem,h1,h2,h3,k1,k2,k3]
theorem vz(b o cap:Nat)(xs:List Rt)(d:Int)(w:World)(hb:b<w.heap.size)(hn:xs.length<=cap)(hcap:cap<=maxLen)(hr:Hid (TAt w b o xs))(h0:0<=d)(h1:d<16) :
  Calls prog 226 #[.slice (some ⟨b,o,none⟩) xs.length cap,.int .i64 d] w λe w'=>e=.returned (.tuple #[.int .i64 (j7 xs d).2,.bool (!((j7 xs d).1 == -1))])/\Below w.heap.size w w':=by
 unfold maxLen at hcap;have t1:decide (d<0)=false:=by simp;omega
 have t2:decide (16<=d)=false:=by simp;omega
 have D0:=Below.al (Below.refl w.heap.size w) (.cells #[.int .i64 0,.int .i64 (-1),.int .i64 0] 210);have B0:=mc w 0 (-1) 0 210;clear h0 h1;go_enter func226,ntmps226;go_wp2_with fail;go_loopw[18] (λi wr=>∃k:Nat,∃v m p:Int,i=.int .i64 (k:Int)/\k<=xs.length/\Below w.heap.size w wr/\BoxR wr w.heap.size v m p/\Hid (j7 (xs.take k) d=(m,p))) (λi _=>xs.length-(intOf i).toNat)
 case atStart=>exact⟨0,0,-1,0,rfl,by omega,D0,B0,rfl⟩
 case round =>
  obtain⟨k,v,m,p,rfl,hk,D1,B1,hl⟩:=hrel;by_cases hlt:k<xs.length
  ·obtain⟨r,hxk⟩:∃r,xs[k]?=some r:=⟨_,List.getElem?_eq_getElem hlt⟩;obtain⟨c0,c1,c2⟩:=(hr.out.below D1 hb).at hxk;have Hd:Hid (j7 (xs.take (k+1)) d=if isR r&&takesB r d&&decide (m<r.b)then(r.b,r.p)else(m,p)):=by
    show _=_;rw[tY hxk,hl.out];rfl
   have IS:Hid (∀w,Calls prog 166 #[rtw r.v r.b r.p] w λe w'=>e=.returned (.bool (isR r))/\Below w.heap.size w w'):=λw=>lZ r w;have TK:Hid (isR r=true->∀w,Calls prog 230 #[rtw r.v r.b r.p,.int .i64 d] w λe w'=>e=.returned (.bool (takesB r d))/\Below w.heap.size w w'):=λh w=>vx r d w h;have D2:=Below.al D1 (.cells #[.int .i64 r.v,.int .i64 r.b,.int .i64 r.p] 210);have B2:=B1.alloc (.cells #[.int .i64 r.v,.int .i64 r.b,.int .i64 r.p] 210);have T2:=aa wr (.int .i64 r.v) (.int .i64 r.b) (.int .i64 r.p) 210;have lw:=D1.size;have lb:=B1.1.1;obtain⟨⟨_,g0,g1,g2⟩,_⟩:=id B2;clear hxk hl B1 D1 hr D0 B0;generalize isR r=x at *;generalize takesB r d=y at *;generalize r.v=rv0 at *;generalize r.b=rb0 at *;generalize r.p=rp0 at *;go_wp2_with fail;refine(IS.out _).mono ?_;rintro e w3⟨rfl,hb3⟩;have D3:=chn hb3 D2;have B3:=B2.below hb3 (by simp;omega);have T3:=aw hb3 (by simp) T2;clear hb3 D2 B2 T2 g0 g1 g2 c0 c1 c2 IS;cases x
   ·go_wp2_with fail;go_roundw
    case rel=>exact⟨k+1,v,m,p,by go_num,by omega,D3,B3,by show _=_;rw[Hd.out];simp⟩
    case measure=>simp[intOf];omega
   ·obtain⟨_,z0,z1,z2⟩:=id T3;go_wp2_with fail;refine(TK.out (by trivial) _).mono ?_;rintro e w4⟨rfl,hb4⟩;have D4:=chn hb4 D3;have B4:=B3.below hb4 B3.1.1;have T4:=aw hb4 T3.1 T3;clear hb4 D3 B3 T3 z0 z1 z2 TK;cases y
    ·go_wp2_with fail;go_roundw
     case rel=>exact⟨k+1,v,m,p,by go_num,by omega,D4,B4,by show _=_;rw[Hd.out];simp⟩
     case measure=>simp[intOf];omega
    ·obtain⟨_,z0,z1,z2⟩:=id T4;obtain⟨⟨_,q0,q1,q2⟩,f0,f1,f2⟩:=id B4;cases hm:decide (m<rb0)
     ·have Hn:Hid (j7 (xs.take (k+1)) d=(m,p)):=by show _=_;rw[Hd.out,hm];simp
      clear Hd;go_wp2_with fail;go_roundw
      case rel=>exact⟨k+1,v,m,p,by go_num,by omega,D4,B4,Hn⟩
      case measure=>simp[intOf];omega
     ·have Hn:Hid (j7 (xs.take (k+1)) d=(rb0,rp0)):=by show _=_;rw[Hd.out,hm];simp
      clear Hd;have B5:=vy B4 rv0 rb0 rp0;have D5:=((D4.setCell (p:=⟨w.heap.size,0,none⟩) (Nat.le_refl _) (.int .i64 rv0)).setCell (p:=⟨w.heap.size,1,none⟩) (Nat.le_refl _) (.int .i64 rb0)).setCell (p:=⟨w.heap.size,2,none⟩) (Nat.le_refl _) (.int .i64 rp0);go_wp2_with fail;go_roundw
      case rel=>exact⟨k+1,rv0,rb0,rp0,by go_num,by omega,D5,B5,Hn⟩
      case measure=>simp[intOf];omega
  ·obtain rfl:k=xs.length:=by omega
   have Hn:Hid (j7 xs d=(m,p)):=by
    have:=hl.out;rw[List.take_length]at this;exact this
   obtain⟨⟨_,q0,q1,q2⟩,f0,f1,f2⟩:=id B1;go_wp2_with fail
   go_quiet (fail)
   go_wp2_with fail;go_ret2;exact⟨by rw[Hn.out];rfl,aO D1 _⟩
theorem vA(A:Option Addr)(cap:Nat)(d:Int)(w:World)(h0:0<=d)(h1:d<16) :
  Calls prog 226 #[.slice A 0 cap,.int .i64 d] w λe w'=>e=.returned (.tuple #[.int .i64 0,.bool false])/\Below w.heap.size w w':=by
 have t1:decide (d<0)=false:=by simp;omega
 have t2:decide (16<=d)=false:=by simp;omega
 have D0:=Below.al (Below.refl w.heap.size w) (.cells #[.int .i64 0,.int .i64 (-1),.int .i64 0] 210);have B0:=mc w 0 (-1) 0 210;clear h0 h1;go_enter func226,ntmps226;go_wp2_with fail;go_loopw[18] (λi wr=>i=.int .i64 0/\Below w.heap.size w wr/\BoxR wr w.heap.size 0 (-1) 0) (λi _=>0)
 case atStart=>exact⟨rfl,D0,B0⟩
 case round =>
  obtain⟨rfl,D1,B1⟩:=hrel;obtain⟨⟨_,q0,q1,q2⟩,f0,f1,f2⟩:=id B1;go_wp2_with fail
  go_quiet (fail)
  go_wp2_with fail;go_ret2;exact⟨rfl,aO D1 _⟩
theorem vB(v:Value)(d:Int)(w:World)(h:d<0\/16<=d) :
  Calls prog 226 #[v,.int .i64 d] w λe w'=>e=.returned (.tuple #[.int .i64 0,.bool false])/\Below w.heap.size w w':=by
 by_cases h0:d<0
 ·have t1:decide (d<0)=true:=by simp;omega
  go_enter func226,ntmps226;go_wp2_with fail;go_ret2;exact⟨rfl,Below.refl _ _⟩
 ·have t1:decide (d<0)=false:=by simp;omega
  have t2:decide (16<=d)=true:=by simp;omega
  go_enter func226,ntmps226;go_wp2_with fail;go_ret2;exact⟨rfl,Below.refl _ _⟩
theorem vC{v:Value}{xs:List Rt}(d:Int)(w:World)(h:Routes w.heap.size w v xs) :
  Calls prog 226 #[v,.int .i64 d] w λe w'=>e=.returned (.tuple #[.int .i64 (outN xs d),.bool (outB xs d)])/\Below w.heap.size w w':=by
 by_cases hd:0<=d/\d<16
 ·have e1:outN xs d=(j7 xs d).2:=by unfold outN;rw[if_pos hd]
  have e2:outB xs d=!((j7 xs d).1 == -1):=by unfold outB;simp[hd]
  rw[e1,e2];obtain⟨A,cap,rfl,_,h1,h2,h3⟩:=h;by_cases hx:xs=[]
  ·subst hx;exact vA A cap d w hd.1 hd.2
  ·obtain⟨b,o,rfl,hb,hr⟩:=h3 hx;exact vz b o cap xs d w hb h1 h2 hr hd.1 hd.2
 ·have e1:outN xs d=0:=by unfold outN;rw[if_neg hd]
  have e2:outB xs d=false:=by
   unfold outB;by_cases h0:0<=d
   ·have:¬d<16:=λh1=>hd ⟨h0,h1⟩;simp[this]
   ·simp[h0]
  rw[e1,e2];exact vB v d w (by omega)
theorem vD(r s:Rt)(w:World):Calls prog 169 #[rtw r.v r.b r.p,rtw s.v s.b s.p] w λe w'=>e=.returned (.bool (sameA r s))/\Below w.heap.size w w':=by
 obtain⟨v,b,p⟩:=r;obtain⟨v',b',p'⟩:=s;unfold sameA;simp only;cases h:(v == v')
 ·go_enter func169,ntmps169;go_wp2_with fail;go_ret;exact⟨by simp,by go_grown⟩
 ·go_enter func169,ntmps169;go_wp2_with fail;go_ret;exact⟨by simp,by go_grown⟩
theorem vE(a r:Rt)(n0:Nat)(w:World)(hT:Three w n0 (.int .i64 r.v) (.int .i64 r.b) (.int .i64 r.p)) :
  Calls prog 168 #[rtw a.v a.b a.p,.pointer (some ⟨n0,0,none⟩)] w λe w'=>e=.returned (.bool (sameA a r))/\Below w.heap.size w w':=by
 have D0:=Below.al (Below.refl w.heap.size w) (.cells #[.int .i64 a.v,.int .i64 a.b,.int .i64 a.p] 210);have T1:=ub hT (.cells #[.int .i64 a.v,.int .i64 a.b,.int .i64 a.p] 210);obtain⟨l0,g0,g1,g2⟩:=T1;obtain⟨_,q0,q1,q2⟩:=id hT;have SM:Hid (∀w,Calls prog 169 #[rtw a.v a.b a.p,rtw r.v r.b r.p] w λe w'=>e=.returned (.bool (sameA a r))/\Below w.heap.size w w'):=λw=>vD a r w;have hn:=hT.1;clear hT;generalize sameA a r=x at *;generalize a.v=av at *;generalize a.b=ab at *;generalize a.p=ap at *;generalize r.v=rv at *;generalize r.b=rb at *;generalize r.p=rp at *;go_enter func168,ntmps168;go_wp2_with fail;refine(SM.out _).mono ?_;rintro e w1⟨rfl,hb1⟩;have D1:=chn hb1 D0;clear D0 hb1 g0 g1 g2 q0 q1 q2 SM;go_wp2_with fail;go_ret;exact⟨rfl,D1⟩
theorem me{xs:List Rt}{k:Nat}{a r:Rt}(h:xs[k]?=some a):(xs.take (k+1)).any (λa=>sameA a r)=((xs.take k).any (λa=>sameA a r)||sameA a r):=by
 obtain⟨hk,e⟩:=List.getElem?_eq_some_iff.1 h;rw[List.take_succ_eq_append_getElem hk,e];simp
theorem mf{xs:List Rt}{k:Nat}{a r:Rt}(h:xs[k]?=some a)(hs:sameA a r=true):xs.any (λa=>sameA a r)=true :=
 List.any_eq_true.2 ⟨a,List.mem_of_getElem? h,hs⟩
theorem vF(b o cap n0:Nat)(xs:List Rt)(r:Rt)(w:World)(hb:b<w.heap.size)(hn:xs.length<=cap)(hcap:cap<=maxLen)(hr:Hid (TAt w b o xs))(hT:Hid (Three w n0 (.int .i64 r.v) (.int .i64 r.b) (.int .i64 r.p))) :
  Calls prog 194 #[.slice (some ⟨b,o,none⟩) xs.length cap,.func (.func 168) #[] #[.pointer (some ⟨n0,0,none⟩)]] w λe w'=>∃j:Int,e=.returned (.int .i64 j)/\Hid (decide (0<=j)=xs.any (λa=>sameA a r))/\Below w.heap.size w w':=by
 unfold maxLen at hcap;go_enter func194,ntmps194;go_wp2_with fail;go_loopw[8] (λi wr=>∃k:Nat,i=.int .i64 (k:Int)/\k<=xs.length/\Below w.heap.size w wr/\Hid ((xs.take k).any (λa=>sameA a r)=false)) (λi _=>xs.length-(intOf i).toNat)
 case atStart=>exact⟨0,rfl,by omega,Below.refl _ _,rfl⟩
 case round =>
  obtain⟨k,rfl,hk,D1,hno⟩:=hrel;by_cases hlt:k<xs.length
  ·obtain⟨a,hxk⟩:∃a,xs[k]?=some a:=⟨_,List.getElem?_eq_getElem hlt⟩;obtain⟨c0,c1,c2⟩:=(hr.out.below D1 hb).at hxk;have PR:Hid (Calls prog 168 #[rtw a.v a.b a.p,.pointer (some ⟨n0,0,none⟩)] wr λe w'=>e=.returned (.bool (sameA a r))/\Below wr.heap.size wr w'):=vE a r n0 wr (aw D1 hT.out.1 hT.out);have HX:Hid (xs[k]?=some a):=hxk;clear hr hxk;cases hv:sameA a r
   ·rw[hv]at PR;have HV:Hid ((xs.take (k+1)).any (λa=>sameA a r)=false):=by show _=_;rw[me HX.out,hno.out,hv];rfl
    clear hv hno HX hT;generalize a.v=av at *;generalize a.b=ab at *;generalize a.p=ap at *;go_wp2_with fail;refine PR.out.mono ?_;rintro e w2⟨rfl,hb2⟩;have D2:=chn hb2 D1;clear hb2 D1 c0 c1 c2 PR;go_wp2_with fail;go_roundw
    case rel=>exact⟨k+1,by go_num,by omega,D2,HV⟩
    case measure=>simp[intOf];omega
   ·rw[hv]at PR;have fin:Hid (xs.any (λa=>sameA a r)=true):=mf HX.out hv;clear hv hno HX hT;generalize a.v=av at *;generalize a.b=ab at *;generalize a.p=ap at *;go_wp2_with fail;refine PR.out.mono ?_;rintro e w2⟨rfl,hb2⟩;have D2:=chn hb2 D1;clear hb2 D1 c0 c1 c2 PR;go_wp2_with fail;go_ret;exact⟨_,rfl,(by show _=_;rw[fin.out];simp),D2⟩
  ·obtain rfl:k=xs.length:=by omega
   have fin:Hid (xs.any (λa=>sameA a r)=false):=by
    have:=hno.out;rw[List.take_length]at this;exact this
   go_wp2_with fail;go_ret;exact⟨_,rfl,(by show _=_;rw[fin.out];simp),D1⟩
theorem vG(b o cap n0:Nat)(xs:List Rt)(r:Rt)(w:World)(hb:b<w.heap.size)(hn:xs.length<=cap)(hcap:cap<=maxLen)(hr:Hid (TAt w b o xs))(hT:Hid (Three w n0 (.int .i64 r.v) (.int .i64 r.b) (.int .i64 r.p))) :
  Calls prog 167 #[.slice (some ⟨b,o,none⟩) xs.length cap,.func (.func 168) #[] #[.pointer (some ⟨n0,0,none⟩)]] w λe w'=>e=.returned (.bool (xs.any (λa=>sameA a r)))/\Below w.heap.size w w':=by
 have IX:Hid (Calls prog 194 #[.slice (some ⟨b,o,none⟩) xs.length cap,.func (.func 168) #[] #[.pointer (some ⟨n0,0,none⟩)]] w λe w'=>∃j:Int,e=.returned (.int .i64 j)/\Hid (decide (0<=j)=xs.any (λa=>sameA a r))/\Below w.heap.size w w'):=vF b o cap n0 xs r w hb hn hcap hr hT;clear hr hT hn hcap hb;generalize xs.any (λa=>sameA a r)=x at *;generalize xs.length=n at *;go_enter func167,ntmps167;go_wp2_with fail;refine IX.out.mono ?_;rintro e w2⟨j,rfl,hj,hb2⟩;clear IX;go_wp2_with fail;go_ret;exact⟨by rw[hj.out];rfl,hb2⟩
theorem check_row(b o cap:Nat)(xs:List Rt)(w:World)(hb:b<w.heap.size)(hn:xs.length<=cap)(hcap:cap<=maxLen)(hr:Hid (TAt w b o xs))(h8:xs.length<=8) :
  Calls prog 118 #[.slice (some ⟨b,o,none⟩) xs.length cap] w λe w'=>e=.returned (.int .i64 (o8 xs 0))/\Below w.heap.size w w':=by
 have hcap':=hcap;unfold maxLen at hcap;have t8:decide ((8:Int)<(xs.length:Int))=false:=by simp;omega
 go_enter func118,ntmps118;go_wp2_with fail;go_loopw[10] (λi wr=>∃k:Nat,i=.int .i64 (k:Int)/\k<=xs.length/\Below w.heap.size w wr/\Hid (o8 xs 0=o8 xs k)) (λi _=>xs.length-(intOf i).toNat)
 case atStart=>exact⟨0,rfl,by omega,Below.refl _ _,rfl⟩
 case round =>
  obtain⟨k,rfl,hk,D1,hl⟩:=hrel;by_cases hlt:k<xs.length
  ·obtain⟨r,hxk⟩:∃r,xs[k]?=some r:=⟨_,List.getElem?_eq_getElem hlt⟩;obtain⟨c0,c1,c2⟩:=(hr.out.below D1 hb).at hxk;have hlen:(xs.take k).length=k:=by rw[List.length_take];omega
   have Hd:Hid (o8 xs k=if(if isR r then(if(xs.take k).any (λa=>sameA a r)then 5 else 0)else 1:Int)=0 then o8 xs (k+1)else(if isR r then(if(xs.take k).any (λa=>sameA a r)then 5 else 0)else 1:Int)):=kV hxk;have IS:Hid (∀w,Calls prog 166 #[rtw r.v r.b r.p] w λe w'=>e=.returned (.bool (isR r))/\Below w.heap.size w w'):=λw=>lZ r w;have CO:Hid (∀w',Below w.heap.size w w'->Three w' wr.heap.size (.int .i64 r.v) (.int .i64 r.b) (.int .i64 r.p)->Calls prog 167 #[.slice (some ⟨b,o,none⟩) k cap,.func (.func 168) #[] #[.pointer (some ⟨wr.heap.size,0,none⟩)]] w' λe w''=>e=.returned (.bool ((xs.take k).any (λa=>sameA a r)))/\Below w'.heap.size w' w''):=λw' hw hT=>by
    have:=vG b o cap wr.heap.size (xs.take k) r w' (Nat.lt_of_lt_of_le hb hw.size) (by omega) hcap' ((hr.out.below hw hb).take k) hT;rw[hlen]at this;exact this
   have D2:=Below.al D1 (.cells #[.int .i64 r.v,.int .i64 r.b,.int .i64 r.p] 210);have T2:=aa wr (.int .i64 r.v) (.int .i64 r.b) (.int .i64 r.p) 210;have lw:=D1.size;clear hxk D1 hr hlen hcap';generalize isR r=x at *;generalize (xs.take k).any (λa=>sameA a r)=y at *;generalize r.v=rv0 at *;generalize r.b=rb0 at *;generalize r.p=rp0 at *;go_wp2_with fail;refine(IS.out _).mono ?_;rintro e w3⟨rfl,hb3⟩;have D3:=chn hb3 D2;have T3:=aw hb3 (by simp) T2;clear hb3 D2 T2 c0 c1 c2 IS;cases x
   ·go_wp2_with fail;go_ret;exact⟨by rw[hl.out,Hd.out];simp,D3⟩
   ·go_wp2_with fail;refine(CO.out _ D3 T3).mono ?_;rintro e w4⟨rfl,hb4⟩;have D4:=chn hb4 D3;clear hb4 D3 T3 CO;cases y
    ·go_wp2_with fail;go_roundw
     case rel=>exact⟨k+1,by go_num,by omega,D4,by show _=_;rw[hl.out,Hd.out];simp⟩
     case measure=>simp[intOf];omega
    ·go_wp2_with fail;go_ret;exact⟨by rw[hl.out,Hd.out];simp,D4⟩
  ·have fin:Hid (o8 xs 0=0):=by show _=_;rw[hl.out,fF (by omega)]
   go_wp2_with fail;go_ret;exact⟨by rw[fin.out];rfl,D1⟩
theorem vH(A:Option Addr)(cap:Nat)(w:World) :
  Calls prog 118 #[.slice A 0 cap] w λe w'=>e=.returned (.int .i64 0)/\Below w.heap.size w w':=by
 go_enter func118,ntmps118;go_wp2_with fail;go_loopw[10] (λi wr=>i=.int .i64 0/\Below w.heap.size w wr) (λi _=>0)
 case atStart=>exact⟨rfl,Below.refl _ _⟩
 case round =>
  obtain⟨rfl,D1⟩:=hrel;go_wp2_with fail;go_ret;exact⟨rfl,D1⟩
theorem vJ(A:Option Addr)(n cap:Nat)(w:World)(h:8<n) :
  Calls prog 118 #[.slice A n cap] w λe w'=>e=.returned (.int .i64 2)/\Below w.heap.size w w':=by
 have t8:decide ((8:Int)<(n:Int))=true:=by simp;omega
 go_enter func118,ntmps118;go_wp2_with fail;go_ret;exact⟨rfl,Below.refl _ _⟩
theorem mg{v:Value}{xs:List Rt}(w:World)(h:Routes w.heap.size w v xs) :
  Calls prog 118 #[v] w λe w'=>e=.returned (.int .i64 (checkV xs))/\Below w.heap.size w w':=by
 obtain⟨A,cap,rfl,_,h1,h2,h3⟩:=h;unfold checkV;by_cases h8:8<xs.length
 ·rw[if_pos h8];exact vJ A xs.length cap w h8
 ·rw[if_neg h8];by_cases hx:xs=[]
  ·subst hx;rw[fF (by simp)];exact vH A cap w
  ·obtain⟨b,o,rfl,hb,hr⟩:=h3 hx;exact check_row b o cap xs w hb h1 h2 hr (by omega)
end Go.Proofs.YtppbfikimalojaaGreat
namespace Go.Proofs.YtppbfikimalojaaGreat
open Tryz
open Go.RowKit Go.Maps
def E6(xs:List Rt)(q:Int)(i:Nat):Bool:=outB xs (i:Int)&&(outN xs (i:Int) == q)
theorem vK(z c:Nat)(hz:z<65536)(hc:c<16):Go.bits .or .u16 (z:Int) (IntKind.u16.wrap (2 ^ c))=((z ||| 2 ^ c:Nat):Int)/\z ||| 2 ^ c<65536:=by
 have hp:2 ^ c<65536:=Nat.pow_lt_pow_right (a:=2) (by omega) (show c<16 by omega);have hlt:z ||| 2 ^ c<65536:=Nat.or_lt_two_pow (n:=16) hz hp
 have e0:IntKind.u16.wrap (2 ^ c)=((2 ^ c:Nat):Int):=by
  have e:(2:Int) ^ c=((2 ^ c:Nat):Int):=by simp
  rw[e];exact IntWalk.u16_in _ ⟨Int.natCast_nonneg _,by have:=Int.ofNat_lt.2 hp;omega⟩
 refine⟨?_,hlt⟩;rw[e0];generalize 2 ^ c=p at *;have e1:BitVec.ofInt 16 (z:Int)=BitVec.ofNat 16 z:=by simp
 have e2:BitVec.ofInt 16 (p:Int)=BitVec.ofNat 16 p:=by simp
 have hm:(BitVec.ofNat 16 z ||| BitVec.ofNat 16 p).toNat=z ||| p:=by
  simp[BitVec.toNat_or,Nat.mod_eq_of_lt hz,Nat.mod_eq_of_lt hp]
 show IntKind.u16.wrap ((BitVec.ofInt 16 (z:Int) ||| BitVec.ofInt 16 (p:Int)).toNat:Int)=_;rw[e1,e2,hm];exact IntWalk.u16_in _ (by omega)
theorem vL{v:Value}{xs:List Rt}(q:Int)(w:World)(h:Hid (Routes w.heap.size w v xs)) :
  Calls prog 220 #[v,.int .i64 q] w λe w'=>∃s:Nat,e=.returned (.int .u16 (s:Int))/\s<65536/\Hid (∀i,i<16->s.testBit i=E6 xs q i)/\Below w.heap.size w w':=by
 go_enter func220,ntmps220;go_wp2_with fail;go_loopw[5,9] (λs i wr=>∃c z:Nat,i=.int .i64 (c:Int)/\s=.int .u16 (z:Int)/\c<=16/\z<65536/\Below w.heap.size w wr/\Hid (∀i,z.testBit i=(decide (i<c)&&E6 xs q i))) (λ_ i _=>16-(intOf i).toNat)
 case atStart=>exact⟨0,0,rfl,rfl,by omega,by omega,Below.refl _ _,λi=>by simp⟩
 case round =>
  obtain⟨c,z,rfl,rfl,hc,hz,D1,hb⟩:=hrel;by_cases hlt:c<16
  ·have OU:Hid (Calls prog 226 #[v,.int .i64 (c:Int)] wr λe w''=>e=.returned (.tuple #[.int .i64 (outN xs (c:Int)),.bool (outB xs (c:Int))])/\Below wr.heap.size wr w''):=vC (c:Int) wr ((h.out.below D1).mono D1.size);have HS:Hid (E6 xs q c=(outB xs (c:Int)&&(outN xs (c:Int) == q))):=rfl;obtain⟨o1,o2⟩:=vK z c hz hlt;have NO:Hid (E6 xs q c=false->∀i,z.testBit i=(decide (i<c+1)&&E6 xs q i)):=λhn i=>by
    rw[hb.out i];by_cases hi:i=c
    ·subst hi;rw[hn];simp
    ·congr 1
     rw[decide_eq_decide];omega
   have YES:Hid (E6 xs q c=true->∀i,(z ||| 2 ^ c).testBit i=(decide (i<c+1)&&E6 xs q i)):=λhy i=>by
    rw[Nat.testBit_or,hb.out i,Nat.testBit_two_pow];by_cases hi:i=c
    ·subst hi;rw[hy];simp
    ·have e1:decide (i<c+1)=decide (i<c):=by rw[decide_eq_decide];omega
     have e2:decide (c=i)=false:=by simp;omega
     rw[e1,e2,Bool.or_false]
   clear hb;generalize outN xs (c:Int)=n0 at *;generalize outB xs (c:Int)=k0 at *;go_wp2_with fail;refine OU.out.mono ?_;rintro e w2⟨rfl,hb2⟩;have D2:=chn hb2 D1;clear OU hb2 D1;cases k0
   ·have NO':Hid (∀i,z.testBit i=(decide (i<c+1)&&E6 xs q i)):=NO.out (by rw[HS.out];rfl);clear NO YES HS o1 o2;go_wp2_with fail;go_roundw
    case rel=>exact⟨c+1,z,by go_num,rfl,by omega,hz,D2,NO'⟩
    case measure=>simp[intOf];omega
   ·cases hq:(n0 == q)
    ·have NO':Hid (∀i,z.testBit i=(decide (i<c+1)&&E6 xs q i)):=NO.out (by rw[HS.out,hq];rfl);clear NO YES HS o1 o2;go_wp2_with fail;go_roundw
     case rel=>exact⟨c+1,z,by go_num,rfl,by omega,hz,D2,NO'⟩
     case measure=>simp[intOf];omega
    ·have YES':Hid (∀i,(z ||| 2 ^ c).testBit i=(decide (i<c+1)&&E6 xs q i)):=YES.out (by rw[HS.out,hq];rfl);have O1:Hid (Go.bits .or .u16 (z:Int) (IntKind.u16.wrap (2 ^ c))=((z ||| 2 ^ c:Nat):Int)):=o1;clear NO YES HS o1;go_wp2_with fail;go_roundw
     case rel=>exact⟨c+1,z ||| 2 ^ c,by go_num,congrArg (Value.int .u16) O1.out,by omega,o2,D2,YES'⟩
     case measure=>simp[intOf];omega
  ·obtain rfl:c=16:=by omega
   have fin:Hid (∀i,i<16->z.testBit i=E6 xs q i):=λi hi=>by
    rw[hb.out i,decide_eq_true hi];rfl
   clear hb;go_wp2_with fail;go_ret;exact⟨z,rfl,hz,fin,D1⟩
theorem vM(w:World)(n:Nat)(x:Value)(a b c d:Value)(h:cZ w n a b c d):(w.setCell ⟨n,1,none⟩ x).cell? ⟨n,0,none⟩=some a/\(w.setCell ⟨n,1,none⟩ x).cell? ⟨n,1,none⟩=some x/\(w.setCell ⟨n,1,none⟩ x).cell? ⟨n,2,none⟩=some c/\(w.setCell ⟨n,1,none⟩ x).cell? ⟨n,3,none⟩=some d:=by
 obtain⟨h0,h1,h2,h3,h4⟩:=h;refine⟨?_,?_,?_,?_⟩ <;> simp[go_sem,h1,h2,h3,h4]
section
variable {b9 a M:Nat}{w:World}{ns:List Nd}
theorem vN(h:Ar b9 a M 14 40000 w ns){v:Value}{xs:List Rt}(q:Int)(hR:Hid (Routes w.heap.size w v xs))(hc:checkV xs=0) :
  Calls prog 207 #[.pointer (some ⟨a,0,none⟩),v,.int .i64 q] w λe w'=>∃s:Nat,(s<65536/\Hid (∀i,i<16->s.testBit i=E6 xs q i))/\MkPost b9 a M 14 40000 w ns 44 0 (phi 65535 s 255 255) e w':=by
 have CK:Hid (Calls prog 118 #[v] w λe w''=>e=.returned (.int .i64 0)/\Below w.heap.size w w''):=by
  have:=mg w hR.out;rw[hc]at this;exact this
 clear hc;go_enter func207,ntmps207;go_wp2_with fail;refine CK.out.mono ?_;rintro e w1⟨rfl,D1⟩;clear CK;go_wp2_with fail;refine(all_any _).mono ?_;rintro e w2⟨rfl,hb2⟩;have D2:=chn hb2 D1;have D3:=Below.al D2 (.cells #[.int .u16 65535,.int .u16 65535,.int .u8 255,.int .u8 255] 32);have F3:=lD w2 (.int .u16 65535) (.int .u16 65535) (.int .u8 255) (.int .u8 255) 32;have fz3:(w2.alloc (.cells #[.int .u16 65535,.int .u16 65535,.int .u8 255,.int .u8 255] 32)).frozen? ⟨w2.heap.size,1,none⟩=false:=by simp[go_sem]
 have z2:=D2.size;have SE:Hid (Calls prog 220 #[v,.int .i64 q] (w2.alloc (.cells #[.int .u16 65535,.int .u16 65535,.int .u8 255,.int .u8 255] 32)) λe w'=>∃s:Nat,e=.returned (.int .u16 (s:Int))/\s<65536/\Hid (∀i,i<16->s.testBit i=E6 xs q i)/\Below (w2.alloc (.cells #[.int .u16 65535,.int .u16 65535,.int .u8 255,.int .u8 255] 32)).heap.size (w2.alloc (.cells #[.int .u16 65535,.int .u16 65535,.int .u8 255,.int .u8 255] 32)) w'):=vL q _ ((hR.out.below D3).mono D3.size);clear hb2 D1 D2 hR;go_wp2_with fail;refine SE.out.mono ?_;rintro e w4⟨s,rfl,hs,hbits,hb4⟩;have D4:=chn hb4 D3;have F4:=lC hb4 F3;have fz4:w4.frozen? ⟨w2.heap.size,1,none⟩=false:=(hb4.frozen (p:=⟨w2.heap.size,1,none⟩) (by simp)).trans fz3;have F5:=vM w4 w2.heap.size (.int .u16 (s:Int)) _ _ _ _ F4;have D5:=D4.setCell (p:=⟨w2.heap.size,1,none⟩) z2 (.int .u16 (s:Int));have A5:=h.below D5;have K5:=h.kbelow D5;obtain⟨_,x0,x1,x2,x3⟩:=id F4;obtain⟨y0,y1,y2,y3⟩:=F5;have BM:Hid (Calls prog 68 #[.pointer (some ⟨a,0,none⟩),mt 65535 s 255 255] (w4.setCell ⟨w2.heap.size,1,none⟩ (.int .u16 (s:Int))) (MkPost b9 a M 14 40000 (w4.setCell ⟨w2.heap.size,1,none⟩ (.int .u16 (s:Int))) ns 44 0 (phi 65535 s 255 255))):=eS A5 (Nat.le_refl _) 65535 s 255 255 (by omega) hs (by omega) (by omega);clear SE F3 fz3 D3 hb4 D4 A5 D5;go_wp2_with fail;refine BM.out.mono ?_;rintro e w6 hp;obtain⟨ns6,v6,er6,rfl,A6,K6,X6,l6,d6⟩:=hp.pair;have fin:Hid (MkPost b9 a M 14 40000 w ns 44 0 (phi 65535 s 255 255) (.returned (.tuple #[.int .i64 v6,.int .i64 er6])) w6):=by
  refine⟨ns6,A6,K5.trans K6,X6,l6,?_⟩;rcases d6.out with⟨rfl,f,rfl,r⟩|⟨rfl,rfl,r⟩
  ·exact Or.inl ⟨f,rfl,r⟩
  ·exact Or.inr ⟨rfl,r⟩
 clear BM hp d6 A6 K6 K5 X6 y0 y1 y2 y3 x0 x1 x2 x3 F4 h;go_wp2_with fail;go_ret2;exact⟨s,⟨hs,hbits⟩,fin.out⟩
end
def U6(xs:List Rt)(q:Int):Nat->Nat
 | 0=>0
 | c+1=>if E6 xs q c then U6 xs q c ||| 2 ^ c else U6 xs q c
theorem ed(xs:List Rt)(q:Int):∀(c i:Nat),(U6 xs q c).testBit i=(decide (i<c)&&E6 xs q i)
 | 0,i=>by simp[U6]
 | c+1,i=>by
   unfold U6;cases hs:E6 xs q c
   ·rw[if_neg (by simp),ed xs q c i];by_cases hi:i=c
    ·subst hi;rw[hs];simp
    ·congr 1
     rw[decide_eq_decide];omega
   ·rw[if_pos rfl,Nat.testBit_or,ed xs q c i,Nat.testBit_two_pow];by_cases hi:i=c
    ·subst hi;rw[hs];simp
    ·have e1:decide (i<c+1)=decide (i<c):=by rw[decide_eq_decide];omega
     have e2:decide (c=i)=false:=by simp;omega
     rw[e1,e2,Bool.or_false]
theorem vO{xs:List Rt}{q:Int}{s:Nat}(hs:s<65536)(hb:∀i,i<16->s.testBit i=E6 xs q i):s=U6 xs q 16:=Nat.eq_of_testBit_eq λi=>by
 rw[ed];by_cases hi:i<16
 ·rw[hb i hi,decide_eq_true hi];rfl
 ·rw[decide_eq_false hi,Nat.testBit_lt_two_pow (Nat.lt_of_lt_of_le hs (Nat.pow_le_pow_right (n:=2) (by omega) (show 16<=i by omega)))];rfl
section
variable {b9 q a M:Nat}{w0 w:World}{ns:List Nd}{er:Int}
theorem vP(h:Bn b9 q a M w0 w ns er){A:Option Addr}{n cap:Nat}{pt:Int}{g0:Nat}{χ:Env->Bool}(OP:Hid (Calls prog 207 #[.pointer (some ⟨a,0,none⟩),.slice A n cap,.int .i64 pt] w (ag b9 a M w ns g0 χ))) :
  Calls prog 197 #[.pointer (some ⟨q,0,none⟩),.slice A n cap,.int .i64 pt] w (BOut b9 q a M w0 w ns er g0 χ):=by
 have c0:=h.blk.cell 0 _ rfl;go_enter func197,ntmps197;go_wp2_with fail;refine OP.out.mono ?_;rintro e w1⟨ns1,v,e2,rfl,A1,k1,X1,l1,hv⟩;have KP:=Hq.mk (bg (h.keep k1) v e2);have FN:Hq (∀w2,w2=(if er=0 then w1.setCell ⟨q,1,none⟩ (.int .i64 e2)else w1)->BOut b9 q a M w0 w ns er g0 χ (.returned (.int .i64 v)) w2):=⟨λw2 hw=>h.fin A1 k1 X1 l1 hv hw⟩;clear c0 OP A1 k1 X1 l1 hv h;go_wp2_with fail;refine KP.out.mono ?_;rintro e w2⟨rfl,hw⟩;have F2:=FN.out w2 hw;clear hw FN KP;go_wp2_with fail;go_ret;exact F2
theorem vQ(h:Bn b9 q a M w0 w ns er)(A:Option Addr)(n cap:Nat)(xs:List Rt)(pt:Int)(hR:Routes w.heap.size w (.slice A n cap) xs)(hc:checkV xs=0) :
  Calls prog 197 #[.pointer (some ⟨q,0,none⟩),.slice A n cap,.int .i64 pt] w (BOut b9 q a M w0 w ns er 44 (phi 65535 (U6 xs pt 16) 255 255)) :=
 vP h (OP:=(vN h.ar pt hR hc).mono λ_ _ ⟨s,⟨h1,h2⟩,hp⟩=>by
  rw[vO h1 h2.out]at hp;exact hp.o)
end
theorem vR{b9:Nat}{w:World}{v:Value}{xs:List NRule}(h:SlAt b9 w 5 A9 v xs):Rules b9 w v (xs.map λr=>⟨r.ok,r.a,r.b,r.c,r.d,r.ha,r.hb,r.hc,r.hd⟩):=by
 obtain⟨A,cap,rfl,h0,h1,h2,h3⟩:=h;refine⟨A,cap,by rw[List.length_map],h0,by rw[List.length_map];exact h1,h2,λhn=>?_⟩;obtain⟨b,o,ea,hl,hr⟩:=h3 (λe=>hn (by rw[e];rfl));refine⟨b,o,ea,hl,λj u hj=>?_⟩;have hjl:=(List.getElem?_eq_some_iff.1 hj).1;rw[im,List.length_map]at hjl;have hk:j / 5<xs.length:=by omega
 have hx:xs[j / 5]?=some xs[j / 5]:=List.getElem?_eq_getElem hk;obtain⟨cs,_,rfl,hc⟩:=hr _ _ hx;obtain⟨c0,c1,c2,c3,c4⟩:=fO (xs.map λr:NRule=>(⟨r.ok,r.a,r.b,r.c,r.d,r.ha,r.hb,r.hc,r.hd⟩:Rl)) (j / 5) _ (by rw[List.getElem?_map,hx];rfl);have hm:j % 5=0\/j % 5=1\/j % 5=2\/j % 5=3\/j % 5=4:=by omega
 have eo:o+j=o+j / 5*5+j % 5:=by omega
 rw[eo];rcases hm with hm|hm|hm|hm|hm
 ·rw[show j=j / 5*5 by omega,c0]at hj;rw[hm,<- Option.some.inj hj];exact hc 0 _ rfl
 ·rw[show j=j / 5*5+1 by omega,c1]at hj;rw[hm,<- Option.some.inj hj];exact hc 1 _ rfl
 ·rw[show j=j / 5*5+2 by omega,c2]at hj;rw[hm,<- Option.some.inj hj];exact hc 2 _ rfl
 ·rw[show j=j / 5*5+3 by omega,c3]at hj;rw[hm,<- Option.some.inj hj];exact hc 3 _ rfl
 ·rw[show j=j / 5*5+4 by omega,c4]at hj;rw[hm,<- Option.some.inj hj];exact hc 4 _ rfl
def O6(d:Dv):List Rl:=d.rules.map λr=>⟨r.ok,r.a,r.b,r.c,r.d,r.ha,r.hb,r.hc,r.hd⟩
def bY(d:Dv):List Rt:=d.routes.map rtOf
theorem mh{bs:List Int}{ad:Int}:∀(m k:Nat),bs.length-k<=m->j8 bs ad k≠1->∀j x,k<=j->bs[j]?=some x->0<=x/\x<16
 | 0,k,h,_,j,x,hj,hx=>by
   have:=(List.getElem?_eq_some_iff.1 hx).1;omega
 | m+1,k,h,h0,j,x,hj,hx=>by
   have hjl:=(List.getElem?_eq_some_iff.1 hx).1;have hk:k<bs.length:=by omega
   rw[fG (List.getElem?_eq_getElem hk)]at h0
   split at h0
   ·rename_i hc
    by_cases e:j=k
    ·subst e;rw[List.getElem?_eq_getElem hk]at hx;obtain rfl:=Option.some.inj hx;simp only[Bool.and_eq_true,decide_eq_true_eq]at hc;omega
    ·exact mh m (k+1) (by omega) h0 j x (by omega) hx
   ·exact absurd rfl h0
theorem bi{d:Dv}(h:devC d=0):(1<=d.kind/\d.kind<=5)/\(0<=d.addr/\d.addr<16)/\(∀x∈d.backs,0<=x/\x<16)/\d.rules.length<=8/\checkV (bY d)=0:=by
 unfold devC P9 at h
 split at h
 ·simp at h
 rename_i h1
 split at h
 ·simp at h
 rename_i h2
 split at h
 ·simp at h
 split at h
 ·simp at h
 split at h
 ·simp at h
 rename_i h5
 split at h
 ·simp at h
 split at h
 ·simp at h
 rename_i h8
 refine⟨?_,?_,λx hx=>?_,by omega,h⟩
 ·simp at h1;omega
 ·cases hk:hasAddr d.kind
  ·rw[hk]at h2;simp at h2;omega
  ·rw[hk]at h2;simp at h2;omega
 ·obtain⟨j,hj,e⟩:=List.mem_iff_getElem.1 hx;exact mh d.backs.length 0 (by omega) h5 j x (Nat.zero_le _) (by rw[List.getElem?_eq_getElem hj,e])
theorem mi(z:Nat):∃zc:Nat,zc<65536/\Go.bits .andNot .u16 65535 (z:Int)=(zc:Int)/\∀i,i<16->zc.testBit i=!z.testBit i:=by
 have e1:BitVec.ofInt 16 (z:Int)=BitVec.ofNat 16 z:=by simp
 refine⟨(BitVec.ofNat 16 65535 &&& ~~~ BitVec.ofNat 16 z).toNat,BitVec.isLt _,?_,λi hi=>?_⟩
 ·show IntKind.u16.wrap (((BitVec.ofInt 16 65535 &&& ~~~ BitVec.ofInt 16 (z:Int)).toNat:Nat):Int)=_;have hlt:=(BitVec.ofInt 16 65535 &&& ~~~ BitVec.ofInt 16 (z:Int)).isLt;rw[IntWalk.u16_in _ ⟨by omega,by omega⟩,e1];rfl
 ·rw[BitVec.testBit_toNat,BitVec.getLsbD_and,BitVec.getLsbD_not,show BitVec.ofNat 16 65535=BitVec.allOnes 16 by decide,BitVec.getLsbD_allOnes,BitVec.getLsbD_ofNat];simp[hi]
noncomputable def bZ (z:Nat):Nat:=(mi z).choose
theorem gg(z:Nat):bZ z<65536/\Go.bits .andNot .u16 65535 (z:Int)=(bZ z:Int)/\∀i,i<16->(bZ z).testBit i=!z.testBit i:=(mi z).choose_spec
noncomputable def C6 (d:Dv)(pt:Int)(φ0 φ1 φ2 φ3:Env->Bool):Env->Bool :=
 if d.kind=2 then(λx=>(λx=>orP φ0 φ1 φ2 φ3 4 x&&phi 65535 (U6 (bY d) pt 16) 255 255 x) x&&j6 (O6 d) x)
 else if d.kind=3 then(if pt=1 then(λx=>φ0 x&&j6 (O6 d) x)else(λx=>φ1 x&&flF (λx=>φ0 x&&j6 (O6 d) x) x))
 else if d.kind=4 then(if pt=1 then(λx=>anF (anF φ0 8 3) 0 4 x&&(phi (setL [d.addr] 0) 65535 d.pool 255) x)else(λx=>anF (anF (λx=>φ1 x&&(phi 65535 (setL [d.addr] 0) 255 d.pool) x) 11 3) 4 4 x&&flF (anF (anF φ0 11 3) 4 4) x))
 else if d.kind=5 then(if pt=1 then(λx=>(λx=>φ0 x&&phi 65535 (bZ (setL [d.addr] 0)) 255 255 x) x||(λx=>anF (λx=>φ0 x&&(phi 65535 (setL [d.addr] 0) 255 255) x) 4 4 x&&(phi 65535 (setL d.backs 0) 255 255) x) x)
  else(λx=>φ1 x||(λx=>anF (λx=>φ1 x&&(λx=>(phi (setL d.backs 0) 65535 255 255) x&&flF (anF (λx=>φ0 x&&(phi 65535 (setL [d.addr] 0) 255 255) x) 4 4) x) x) 0 4 x&&(phi (setL [d.addr] 0) 65535 255 255) x) x))
 else(λ_=>false)
section
variable {b9 q a M:Nat}{w0 w:World}{ns:List Nd}{er:Int}
theorem ml:2 ^ cnS (λ_=>true) 14 0-1<=16383:=by
 have:=bK (S:=λ_=>true) (b8:=14) 0;have:=Nat.pow_le_pow_right (n:=2) (by omega) this;omega
theorem J7{φ ψ:Env->Bool}:H9 b9 q a M w0 φ ψ 16383:=λ_ _ _ _ _ h hf hg=>(and_b (λ_=>true) h hf hg (λ_=>⟨DepS.all _,DepS.all _⟩)).mono λ_ _ B=>B.more ml
theorem gh{φ ψ:Env->Bool}:OrB b9 q a M w0 φ ψ 16383:=λ_ _ _ _ _ h hf hg=>(or_b (λ_=>true) h hf hg (λ_=>⟨DepS.all _,DepS.all _⟩)).mono λ_ _ B=>B.more ml
theorem mm{φ:Env->Bool}:AnB 200 b9 q a M w0 φ (anF φ 0 4) (4*16383):=λ_ _ _ _ h hf=>uR h hf
theorem gi{φ:Env->Bool}:AnB 203 b9 q a M w0 φ (anF φ 4 4) (4*16383):=λ_ _ _ _ h hf=>uS h hf
theorem vS{φ:Env->Bool}:AnB 201 b9 q a M w0 φ (anF φ 8 3) (3*16383):=λ_ _ _ _ h hf=>uT h hf
theorem mn{φ:Env->Bool}:AnB 204 b9 q a M w0 φ (anF φ 11 3) (3*16383):=λ_ _ _ _ h hf=>uU h hf
theorem vT(h:Bn b9 q a M w0 w ns er)(d:Dv)(hd:devC d=0){Ab A At:Option Addr}{nb cb n cap nt ct:Nat}(hb:SlAt b9 w0 1 IsI (.slice Ab nb cb) d.backs)(hr:SlAt b9 w0 5 A9 (.slice A n cap) d.rules)(ht:SlAt b9 w0 3 C7 (.slice At nt ct) d.routes)(pt:Int){f0 f1 f2 f3:Nat}{φ0 φ1 φ2 φ3:Env->Bool}(hf0:Fn ns er f0 φ0)(hf1:Fn ns er f1 φ1)(hf2:Fn ns er f2 φ2)(hf3:Fn ns er f3 φ3) :
  Calls prog 132 #[.pointer (some ⟨q,0,none⟩),.agg #[.string d.name,.int .i64 d.kind,.int .i64 d.addr,.int .u8 (d.pool:Int),.slice Ab nb cb,.slice A n cap,.slice At nt ct],.int .i64 pt,.agg #[.int .i64 (f0:Int),.int .i64 (f1:Int),.int .i64 (f2:Int),.int .i64 (f3:Int)]] w (BOut b9 q a M w0 w ns er 1000000 (C6 d pt φ0 φ1 φ2 φ3)):=by
 obtain⟨⟨k1,k5⟩,⟨a0,a16⟩,hbs,r8,hck⟩:=bi hd;have RB:dV b9 q a M w0 (.slice A n cap) 40000 (j6 (O6 d)):=vq (vR hr) (by unfold O6;rw[List.length_map];exact r8);have TB:RtB b9 q a M w0 (.slice At nt ct) pt 44 (phi 65535 (U6 (bY d) pt 16) 255 255):=λw ns er b=>vQ b At nt ct (bY d) pt (((fL ht).below b.bel).mono b.size) hck;have hkd:d.kind=1\/d.kind=2\/d.kind=3\/d.kind=4\/d.kind=5:=by omega
 unfold C6;rcases hkd with hk|hk|hk|hk|hk
 ·rw[hk,if_neg (by omega),if_neg (by omega),if_neg (by omega),if_neg (by omega)];exact(send_host h).mono λ_ _ B=>B.more (by omega)
 ·rw[hk,if_pos rfl];refine(vu h (g:=4*16383+44+16383+40000+16383) λW b=>?_).mono λ_ _ B=>B.more (by omega);exact vs b (λk φ _=>gh) TB J7 RB J7 hf0 hf1 hf2 hf3
 ·rw[hk,if_neg (by omega),if_pos rfl];by_cases hp:pt=1
  ·rw[if_pos hp];exact(send_ask h hp λW b=>lX b RB J7 hf0).mono λ_ _ B=>B.more (by omega)
  ·rw[if_neg hp];exact(send_answer h hp λW b=>answer_b b RB J7 ir J7 hf0 hf1).mono λ_ _ B=>B.more (by omega)
 ·rw[hk,if_neg (by omega),if_neg (by omega),if_pos rfl];by_cases hp:pt=1
  ·rw[if_pos hp];exact(send_hide h hp λW b=>hide_b b a0 a16 rfl d.hp vS mm J7 hf0).mono λ_ _ B=>B.more (by omega)
  ·rw[if_neg hp];exact(send_unhide h hp λW b=>qM b a0 a16 rfl d.hp J7 mn gi ir mn gi J7 hf0 hf1).mono λ_ _ B=>B.more (by omega)
 ·rw[hk,if_neg (by omega),if_neg (by omega),if_neg (by omega),if_pos rfl];by_cases hp:pt=1
  ·rw[if_pos hp];exact(send_spread h hp λW b=>qN b a0 a16 ⟨(gg _).1,(gg _).2.1⟩ hb hbs J7 gi J7 J7 gh hf0).mono λ_ _ B=>B.more (by omega)
  ·rw[if_neg hp];exact(send_gather h hp λW b=>qO b a0 a16 hb hbs J7 gi ir J7 J7 mm J7 gh hf0 hf1).mono λ_ _ B=>B.more (by omega)
end
theorem J0:prog.underlying 89=some (.array 10 87):=by kernel_rfl
theorem aP:(prog.info? 89).map (·.size)=some 40:=by kernel_rfl
theorem ce{c:Array Value}(h:c.size=40):(prog.info? 89).map (·.size)=some c.size:=by rw[h];exact aP
abbrev zeros40:Array Value:=#[.int .i64 0,.int .i64 0,.int .i64 0,.int .i64 0,.int .i64 0,.int .i64 0,.int .i64 0,.int .i64 0,.int .i64 0,.int .i64 0,.int .i64 0,.int .i64 0,.int .i64 0,.int .i64 0,.int .i64 0,.int .i64 0,.int .i64 0,.int .i64 0,.int .i64 0,.int .i64 0,.int .i64 0,.int .i64 0,.int .i64 0,.int .i64 0,.int .i64 0,.int .i64 0,.int .i64 0,.int .i64 0,.int .i64 0,.int .i64 0,.int .i64 0,.int .i64 0,.int .i64 0,.int .i64 0,.int .i64 0,.int .i64 0,.int .i64 0,.int .i64 0,.int .i64 0,.int .i64 0]
section
variable {bR R MR c9:Nat}{nsR:List Nd}{w:World}
theorem widen_any(hR:Ar bR R MR 14 c9 w nsR)(d:Dv)(hd:devC d=0){Ab A At:Option Addr}{nb cb n cap nt ct:Nat}(hb:SlAt w.heap.size w 1 IsI (.slice Ab nb cb) d.backs)(hr:SlAt w.heap.size w 5 A9 (.slice A n cap) d.rules)(ht:SlAt w.heap.size w 3 C7 (.slice At nt ct) d.routes)(pt:Int){set f0 f1 f2 f3:Nat}(hs:set<nsR.length)(l0:f0<nsR.length)(l1:f1<nsR.length)(l2:f2<nsR.length)(l3:f3<nsR.length) :
  Calls prog 70 #[.pointer (some ⟨R,0,none⟩),.int .i64 (set:Int),.agg #[.string d.name,.int .i64 d.kind,.int .i64 d.addr,.int .u8 (d.pool:Int),.slice Ab nb cb,.slice A n cap,.slice At nt ct],.int .i64 pt,.agg #[.int .i64 (f0:Int),.int .i64 (f1:Int),.int .i64 (f2:Int),.int .i64 (f3:Int)]] w λe w'=>∃(ns':List Nd) (v er:Int),e=.returned (.tuple #[.int .i64 v,.int .i64 er])/\Ar bR R MR 14 c9 w' ns'/\Kp (ca bR R MR 14 c9) w w'/\Ext nsR ns'/\Hid ((er=0/\∃f:Nat,v=(f:Int)/\f<ns'.length/\∀x,ev ns' f x=(ev nsR set x||C6 d pt (ev nsR f0) (ev nsR f1) (ev nsR f2) (ev nsR f3) x))\/(er=6/\v=0)):=by
 refine(qL hR (λ_=>true) (λ_=>true) hs l0 l1 l2 l3 (DepS.all _) (DepS.all _) (DepS.all _) (DepS.all _) (DepS.all _) (DepS.all _) (gS:=1000000) (gO:=16383) (ψ:=C6 d pt (ev nsR f0) (ev nsR f1) (ev nsR f2) (ev nsR f3)) (λb9 q a M w0 W ns er i0 i1 i2 i3 hbl hle b m0 m1 m2 m3=>?_) (λ_ _ _ _ _=>gh)).mono λe w' ⟨ns',v,er,h1,h2,h3,h4,_,h6⟩=>⟨ns',v,er,h1,h2,h3,h4,?_⟩
 ·exact vT b d hd (SlAt.mono (SlAt.below hb hbl (λ_ _ _ h=>h)) hle (λ_ _ _ h=>h)) (SlAt.mono (SlAt.below hr hbl (λ_ _ _ h=>h)) hle (λ_ _ _ h=>h)) (SlAt.mono (SlAt.below ht hbl (λ_ _ _ h=>h)) hle (λ_ _ _ h=>h)) pt m0 m1 m2 m3
 ·rcases h6.out with h|⟨a,b,_⟩
  ·exact Or.inl h
  ·exact Or.inr ⟨a,b⟩
end
def WidB(gW:Nat)(E:Prop)(d:Dv)(pt:Int)(χ φ0 φ1 φ2 φ3:Env->Bool):Prop :=
 ∀(bR R MR c9:Nat) (nsR:List Nd) (w:World),Ar bR R MR 14 c9 w nsR->∀(Ab A At:Option Addr) (nb cb n cap nt ct:Nat),SlAt w.heap.size w 1 IsI (.slice Ab nb cb) d.backs->SlAt w.heap.size w 5 A9 (.slice A n cap) d.rules->SlAt w.heap.size w 3 C7 (.slice At nt ct) d.routes->∀(set f0 f1 f2 f3:Nat),set<nsR.length->f0<nsR.length->f1<nsR.length->f2<nsR.length->f3<nsR.length ->
   ev nsR set=χ->ev nsR f0=φ0->ev nsR f1=φ1->ev nsR f2=φ2->ev nsR f3=φ3 ->
   Calls prog 70 #[.pointer (some ⟨R,0,none⟩),.int .i64 (set:Int),.agg #[.string d.name,.int .i64 d.kind,.int .i64 d.addr,.int .u8 (d.pool:Int),.slice Ab nb cb,.slice A n cap,.slice At nt ct],.int .i64 pt,.agg #[.int .i64 (f0:Int),.int .i64 (f1:Int),.int .i64 (f2:Int),.int .i64 (f3:Int)]] w λe w'=>∃(ns':List Nd) (v er:Int),e=.returned (.tuple #[.int .i64 v,.int .i64 er])/\Ar bR R MR 14 c9 w' ns'/\Kp (ca bR R MR 14 c9) w w'/\Ext nsR ns'/\ns'.length<=nsR.length+gW/\Hid ((er=0/\∃f:Nat,v=(f:Int)/\f<ns'.length/\∀x,ev ns' f x=(χ x||C6 d pt φ0 φ1 φ2 φ3 x))\/(er=6/\v=0/\(E\/c9<=nsR.length+gW)))
theorem vU{d:Dv}(hd:devC d=0)(pt:Int)(χ φ0 φ1 φ2 φ3:Env->Bool):WidB 40000 True d pt χ φ0 φ1 φ2 φ3:=by
 intro bR R MR c9 nsR w hR Ab A At nb cb n cap nt ct hb hr ht set f0 f1 f2 f3 hs l0 l1 l2 l3 e0 e1 e2 e3 e4;subst e0 e1 e2 e3 e4;refine(widen_any hR d hd hb hr ht pt hs l0 l1 l2 l3).mono λe w' ⟨ns',v,er,h1,h2,h3,h4,h5⟩=>⟨ns',v,er,h1,h2,h3,h4,?_,?_⟩
 ·have:=h2.le;have:=h2.most4;omega
 ·rcases h5.out with h|⟨h,h'⟩
  ·exact Or.inl h
  ·exact Or.inr ⟨h,h',Or.inl trivial⟩
theorem eh{a a' b g n:Nat}(h:a<=b+g*n)(h':a'<=a+g):a'<=b+g*(n+1):=by rw[Nat.mul_succ];omega
theorem di{a b g n m:Nat}(h:a<=b+g*n)(hn:n<=m):a<=b+g*m:=by
 have:=Nat.mul_le_mul_left g hn;omega
structure Gs(bR R MR c9:Nat)(nsR:List Nd)(w:World)(u0 u1:Value)(cw cn nx:Array Value)(ns:List Nd)(W:World):Prop where
 ar:Ar bR R MR 14 c9 W ns
 ext:Ext nsR ns
 kp:Kp (ca bR R MR 14 c9) w W
 bN:Bz W w.heap.size #[u0,u1] 25
 bw:Bz W (w.heap.size+1) cw 89
 bo:Bz W (w.heap.size+1+1) cn 89
 bz:Bz W (w.heap.size+1+1+1) zeros40 89
 bx:Bz W (w.heap.size+1+1+1+1) nx 89
section
variable {bR R MR c9:Nat}{nsR ns ns':List Nd}{w W W':World}{u0 u1:Value}{cw cn nx:Array Value}
theorem Gs.below(h:Gs bR R MR c9 nsR w u0 u1 cw cn nx ns W)(hb:Below W.heap.size W W'):Gs bR R MR c9 nsR w u0 u1 cw cn nx ns W' :=
 ⟨h.ar.below hb,h.ext,h.kp.trans (h.ar.kbelow hb),(hb.block _ h.bN.lt).trans h.bN,(hb.block _ h.bw.lt).trans h.bw,(hb.block _ h.bo.lt).trans h.bo,(hb.block _ h.bz.lt).trans h.bz,(hb.block _ h.bx.lt).trans h.bx⟩
theorem Gs.tf(h:Gs bR R MR c9 nsR w u0 u1 cw cn nx ns W)(k:Kp (ca bR R MR 14 c9) W W'){i:Nat}{c:Array Value}{t:TypeId}(hb:Bz W i c t)(ht:okT t):Bz W' i c t:=((h.ar.outBox hb ht.1 ht.2.1).kp k).blk
theorem Gs.step(h:Gs bR R MR c9 nsR w u0 u1 cw cn nx ns W)(A':Ar bR R MR 14 c9 W' ns')(k:Kp (ca bR R MR 14 c9) W W')(X:Ext ns ns'):Gs bR R MR c9 nsR w u0 u1 cw cn nx ns' W' :=
 ⟨A',h.ext.trans X,h.kp.trans k,h.tf k h.bN (by decide),h.tf k h.bw (by decide),h.tf k h.bo (by decide),h.tf k h.bz (by decide),h.tf k h.bx (by decide)⟩
theorem Gs.setx(h:Gs bR R MR c9 nsR w u0 u1 cw cn nx ns W)(j:Nat)(u:Value):Gs bR R MR c9 nsR w u0 u1 cw cn (nx.setIfInBounds j u) ns (W.setCell ⟨w.heap.size+1+1+1+1,j,none⟩ u):=by
 have hF:∀i,i≠w.heap.size+1+1+1+1->(W.setCell ⟨w.heap.size+1+1+1+1,j,none⟩ u).heap[i]?=W.heap[i]?:=λi hi=>Below.heap_setCell W ⟨w.heap.size+1+1+1+1,j,none⟩ u i hi;have L:=(h.ar.outBox h.bx (by decide) (by decide)).out;have n1:R≠w.heap.size+1+1+1+1:=λe=>L.not (Or.inl e.symm);have n2:MR≠w.heap.size+1+1+1+1:=λe=>L.not (Or.inr (Or.inr (Or.inl e.symm)));have n3:rowOf W R≠w.heap.size+1+1+1+1:=λe=>L.ne e.symm;have er:rowOf (W.setCell ⟨w.heap.size+1+1+1+1,j,none⟩ u) R=rowOf W R:=l9 (hF R n1);refine⟨h.ar.same (hF _ n1) (hF _ n2) (hF _ n3),h.ext,⟨h.kp.os,h.kp.tape,h.kp.output,by simp[World.setCell];exact h.kp.size,λi hi hm hr=>(hF i (by omega)).trans (h.kp.blk i hi hm hr),?_,λk hk=>?_⟩,(hF _ (by omega)).trans h.bN,(hF _ (by omega)).trans h.bw,(hF _ (by omega)).trans h.bo,(hF _ (by omega)).trans h.bz,h.bx.set (j:=j) u⟩
 ·rw[show rowOf (W.setCell ⟨w.heap.size+1+1+1+1,j,none⟩ u) (ca bR R MR 14 c9).a=rowOf W (ca bR R MR 14 c9).a from er];exact h.kp.row
 ·rw[<- h.kp.post k hk];exact j9 (hF R n1)
end
def ei(ds:List Dv)(ls:List Lk)(skip:Nat->Prop)(F:Nat->Nat->Env->Bool)(i q:Nat)(t:Int × Int)(x:Env):Prop :=
 ∃(i' q':Nat) (d:Dv),(i'<i\/(i'=i/\q'<q))/\¬skip i'/\ds[i']?=some d/\(q':Int)<portsV d.kind/\peerF ls i' q'=some t/\C6 d q' (F i' 0) (F i' 1) (F i' 2) (F i' 3) x=true
structure GInv(ds:List Dv)(ls:List Lk)(skip:Nat->Prop)(F:Nat->Nat->Env->Bool)(i q:Nat)(ns:List Nd)(sx:Nat->Nat->Nat):Prop where
 lt:∀a b,a<10->b<4->sx a b<ns.length
 fn:∀a b,a<10->b<4->∀x,(ev ns (sx a b) x=true ↔ F a b x=true\/ei ds ls skip F i q ((a:Int),(b:Int)) x)
section
variable {ds:List Dv}{ls:List Lk}{skip:Nat->Prop}{F:Nat->Nat->Env->Bool}{i q:Nat}{ns ns':List Nd}{sx:Nat->Nat->Nat}
theorem iu{i' q':Nat}(h:GInv ds ls skip F i q ns sx)(hs:∀t x,ei ds ls skip F i q t x ↔ ei ds ls skip F i' q' t x):GInv ds ls skip F i' q' ns sx:=⟨h.lt,λa b ha hb x=>(h.fn a b ha hb x).trans (or_congr Iff.rfl (hs _ x))⟩
theorem vV(hl:∀a b,a<10->b<4->sx a b<ns.length)(hF:∀a b,a<10->b<4->ev ns (sx a b)=F a b):GInv ds ls skip F 0 0 ns sx:=⟨hl,λa b ha hb x=>by
 rw[hF a b ha hb];refine⟨Or.inl,λh=>h.resolve_right λ⟨i',q',d,h1,_⟩=>by omega⟩⟩
theorem vW(h:GInv ds ls skip F i 0 ns sx)(hs:skip i):GInv ds ls skip F (i+1) 0 ns sx:=iu h λt x=>by
 constructor
 ·rintro⟨i',q',d,h1,h2⟩;exact⟨i',q',d,by omega,h2⟩
 ·rintro⟨i',q',d,h1,h2,h3⟩;have hne:i'≠i:=λe=>h2 (e ▸ hs);exact⟨i',q',d,by omega,h2,h3⟩
theorem vX(h:GInv ds ls skip F i q ns sx){d:Dv}(hd:ds[i]?=some d)(hq:portsV d.kind<=(q:Int)):GInv ds ls skip F (i+1) 0 ns sx:=iu h λt x=>by
 constructor
 ·rintro⟨i',q',d,h1,h2⟩;exact⟨i',q',d,by omega,h2⟩
 ·rintro⟨i',q',d',h1,h2,h3,h4,h5⟩;refine⟨i',q',d',?_,h2,h3,h4,h5⟩;by_cases e:i'=i
  ·subst e;rw[hd]at h3;obtain rfl:=Option.some.inj h3;omega
  ·omega
theorem vY(h:GInv ds ls skip F i q ns sx)(hp:peerF ls i q=none):GInv ds ls skip F i (q+1) ns sx:=iu h λt x=>by
 constructor
 ·rintro⟨i',q',d,h1,h2⟩;exact⟨i',q',d,by omega,h2⟩
 ·rintro⟨i',q',d',h1,h2,h3,h4,h5,h6⟩;refine⟨i',q',d',?_,h2,h3,h4,h5,h6⟩;by_cases e:i'=i/\q'=q
  ·obtain⟨rfl,rfl⟩:=e;rw[hp]at h5;cases h5
  ·omega
def aA(sx:Nat->Nat->Nat)(a b f:Nat):Nat->Nat->Nat:=λx y=>if x=a/\y=b then f else sx x y
theorem vZ(h:GInv ds ls skip F i q ns sx)(hA:Apart ls)(hW:Wf 14 ns)(hW':Wf 14 ns')(X:Ext ns ns'){d:Dv}(hd:ds[i]?=some d)(hq:(q:Int)<portsV d.kind)(hs:¬skip i){a b f:Nat}(hp:peerF ls i q=some ((a:Int),(b:Int)))(hf:f<ns'.length)(hv:∀x,ev ns' f x=(F a b x||C6 d q (F i 0) (F i 1) (F i 2) (F i 3) x)):GInv ds ls skip F i (q+1) ns' (aA sx a b f):=by
 have hlen:=X.len;refine⟨λx y hx hy=>?_,λx y hx hy e=>?_⟩
 ·unfold aA
  split
  ·exact hf
  ·have:=h.lt x y hx hy;omega
 ·unfold aA
  split
  ·rename_i hxy
   obtain⟨rfl,rfl⟩:=hxy;rw[hv e,Bool.or_eq_true];refine or_congr Iff.rfl ⟨λhse=>⟨i,q,d,by omega,hs,hd,hq,hp,hse⟩,?_⟩;rintro⟨i',q',d',_,_,h3,_,h5,h6⟩;have e1:=fH hA hp;have e2:=fH hA h5;rw[e1]at e2;simp only[Option.some.injEq,Prod.mk.injEq]at e2;obtain⟨e3,e4⟩:=e2;obtain rfl:i=i':=by omega
   obtain rfl:q=q':=by omega
   rw[hd]at h3;obtain rfl:=Option.some.inj h3;exact h6
  ·rename_i hxy
   rw[X.ev hW hW' _ (h.lt x y hx hy),h.fn x y hx hy e];refine or_congr Iff.rfl ⟨?_,?_⟩
   ·rintro⟨i',q',d,h1,h2⟩;exact⟨i',q',d,by omega,h2⟩
   ·rintro⟨i',q',d',h1,h2,h3,h4,h5,h6⟩;refine⟨i',q',d',?_,h2,h3,h4,h5,h6⟩;by_cases e:i'=i/\q'=q
    ·obtain⟨rfl,rfl⟩:=e;rw[hp]at h5;simp only[Option.some.injEq,Prod.mk.injEq]at h5;exact absurd ⟨by omega,by omega⟩ hxy
    ·omega
theorem SetsV.upd{c:Array Value}(h:SetsV c sx){a b f:Nat}(ha:a<10)(hb:b<4):SetsV (c.setIfInBounds (a*4+b) (.int .i64 (f:Int))) (aA sx a b f):=by
 refine⟨by rw[Array.size_setIfInBounds];exact h.1,λx y hx hy=>?_⟩;rw[Array.getElem?_setIfInBounds];unfold aA;by_cases e:x=a/\y=b
 ·obtain⟨rfl,rfl⟩:=e;rw[if_pos rfl,if_pos (by have:=h.1;omega),if_pos ⟨rfl,rfl⟩]
 ·rw[if_neg (by omega),if_neg e];exact h.2 x y hx hy
end
section
variable {bR R MR c9:Nat}{nsR:List Nd}{w:World}
def GOut(gW:Nat)(E:Prop)(w:World)(bR R MR c9:Nat)(nsR:List Nd)(ds:List Dv)(ls:List Lk)(skip:Nat->Prop)(F:Nat->Nat->Env->Bool)(e:Ending)(w':World):Prop :=
 ∃(cx:Array Value) (er:Int) (ns:List Nd),e=.returned (.tuple #[.agg cx,.int .i64 er])/\cx.size=40/\Ar bR R MR 14 c9 w' ns/\Kp (ca bR R MR 14 c9) w w'/\Ext nsR ns/\(∀i c t,Bz w i c t->okT t->Bz w' i c t)/\ns.length<=nsR.length+gW*(4*ds.length) /\
   Hid ((er=0/\∃sx,SetsV cx sx/\GInv ds ls skip F ds.length 0 ns sx)\/(er=6/\cx=zeros40/\(E\/c9<=nsR.length+gW*(4*ds.length))))
theorem gj{ds:List Dv}{ls:List Lk}(hz:netV ds ls=0){i q:Int}{t:Int × Int}(h:peerF ls i q=some t):∃a b:Nat,t=((a:Int),(b:Int))/\a<10/\b<4:=by
 obtain⟨l,hl,he⟩:=aN h;obtain⟨h10,_,_,hp⟩:=l7 hz;have hpl:isPl ds t.1 t.2=true:=by
  rcases ac he with⟨_,rfl⟩|⟨_,rfl⟩
  ·exact(hp l hl).2
  ·exact(hp l hl).1
 unfold isPl at hpl;simp only[Bool.and_eq_true,decide_eq_true_eq]at hpl;have hb:portsV (k9 ds t.1)<=4:=by
  unfold portsV
  split
  ·omega
  split
  ·omega
  split <;> omega
 exact⟨t.1.toNat,t.2.toNat,Prod.ext (by simp;omega) (by simp;omega),by omega,by omega⟩
theorem mr{c:Array Value}{p:Value->Bool}(h:c.all p=true)(j:Nat){u:Value}(hu:p u=true):(c.setIfInBounds j u).all p=true:=by
 rw[Array.all_eq_true_iff_forall_mem]at h ⊢;intro x hx;rcases Array.mem_or_eq_of_mem_setIfInBounds hx with h'|h'
 ·exact h x h'
 ·rw[h'];exact hu
theorem zeros_one:zeros40.all (·.oneCell')=true:=by
 first
  | decide
  | kernel_rfl
  | simp[zeros40,Value.oneCell']
theorem setRow_heap'(W:World)(g:Nat)(c c':Array Value)(t:TypeId)(h:Bz W g c t)(i:Nat):(W.setRow g c').heap[i]?=if g=i then some (.cells c' t (0,0))else W.heap[i]?:=by
 simp only[World.setRow];rw[Array.getElem?_modify];by_cases e:g=i
 ·subst e;unfold Bz at h;rw[if_pos rfl,if_pos rfl,h];rfl
 ·rw[if_neg e,if_neg e]
theorem mu{W:World}{g:Nat}{c:Array Value}{t:TypeId}(h:Bz W g c t):W.setRow g c=W:=by
 have e:(W.setRow g c).heap=W.heap:=by
  apply Array.ext_getElem?;intro i;rw[setRow_heap' W g c c t h i]
  split
  ·rename_i e
   subst e;exact h.symm
  ·rfl
 simp only[World.setRow]at e ⊢;rw[e]
theorem ports_eq(a0 a1 a2 a3 b0 b1 b2 b3:Int)(w:World):(binOp .eql 87 (.agg #[.int .i64 a0,.int .i64 a1,.int .i64 a2,.int .i64 a3]) (.agg #[.int .i64 b0,.int .i64 b1,.int .i64 b2,.int .i64 b3])).run prog w=.ok (.bool ((a0 == b0)&&((a1 == b1)&&((a2 == b2)&&(a3 == b3))))) w:=by
 obtain⟨i,hi⟩:∃i,prog.info? 3=some i:=by
  have h:(prog.info? 3).isSome=true:=by kernel_rfl
  exact Option.isSome_iff_exists.1 h
 have nI:prog.cellsOf 3=1:=by kernel_rfl
 rw[run_eql_struct,show(10000:Nat)=9998+1+1 from rfl,run_equalIn_array w (9998+1) _ _ underlying87 hi,nI,show List.range 4=[0,1,2,3]from rfl];have p0:∀(x0 x1 x2 x3:Int) (w:World),(part 3 #[.int .i64 x0,.int .i64 x1,.int .i64 x2,.int .i64 x3] (0*1)).run prog w=.ok (.int .i64 x0) w:=λ_ _ _ _ _=>by kernel_rfl
 have p1:∀(x0 x1 x2 x3:Int) (w:World),(part 3 #[.int .i64 x0,.int .i64 x1,.int .i64 x2,.int .i64 x3] 1).run prog w=.ok (.int .i64 x1) w:=λ_ _ _ _ _=>by kernel_rfl
 have p2:∀(x0 x1 x2 x3:Int) (w:World),(part 3 #[.int .i64 x0,.int .i64 x1,.int .i64 x2,.int .i64 x3] 2).run prog w=.ok (.int .i64 x2) w:=λ_ _ _ _ _=>by kernel_rfl
 have p3:∀(x0 x1 x2 x3:Int) (w:World),(part 3 #[.int .i64 x0,.int .i64 x1,.int .i64 x2,.int .i64 x3] 3).run prog w=.ok (.int .i64 x3) w:=λ_ _ _ _ _=>by kernel_rfl
 have q:∀(x y:Int) (w:World),(Op.equalIn 9999 3 (.int .i64 x) (.int .i64 y)).run prog w=.ok (x == y) w:=λx y w=>run_equalIn_int w 9998 3 .i64 .i64 x y underlying3;simp only[Op.eqItems,Sem.run_bind,p0,Result.andThen_ok,q];cases h1:(a0 == b0) <;> cases h2:(a1 == b1) <;> cases h3:(a2 == b2) <;> cases h4:(a3 == b3) <;> simp[p1,p2,p3,q,h2,h3,h4]
end
end Go.Proofs.YtppbfikimalojaaGreat
