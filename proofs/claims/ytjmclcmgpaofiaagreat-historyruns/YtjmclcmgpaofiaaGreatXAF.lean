/-
  XAF.
-/
import Derived.Test.YtjmclcmgpaofiaaGreatXLy
import Derived.Test.YtjmclcmgpaofiaaGreatXAB
import Derived.Test.YtjmclcmgpaofiaaGreatXAD
import Derived.Test.YtjmclcmgpaofiaaGreatXAE
set_option maxHeartbeats 8000000
set_option maxRecDepth 100000
namespace Go.Proofs.YtjmclcmgpaofiaaGreat
open Tryz
open Go.RowKit
def LM(w:World)(n:Nat)(a b c d e f g h:Value):Prop:=Lk4 w n a b c d /\ Lk4 w (n+1) e f g h
theorem LM.cells{w:World}{n:Nat}{a b c d e f g h:Value}(H:LM w n a b c d e f g h):w.cell? ⟨n,0,none⟩=some a /\ w.cell? ⟨n,1,none⟩=some b /\ w.cell? ⟨n,2,none⟩=some c /\ w.cell? ⟨n,3,none⟩=some d /\ w.cell? ⟨n+1,0,none⟩=some e /\ w.cell? ⟨n+1,1,none⟩=some f /\ w.cell? ⟨n+1,2,none⟩=some g /\ w.cell? ⟨n+1,3,none⟩=some h:=by
 obtain⟨⟨_,h1,h2,h3,h4⟩,⟨_,h5,h6,h7,h8⟩⟩:=H;exact⟨h1,h2,h3,h4,h5,h6,h7,h8⟩
theorem LM.keep{W w':World}{n:Nat}{a b c d e f g h:Value}(hb:Below W W w')(H:LM W n a b c d e f g h):LM w' n a b c d e f g h:=⟨H.1.below hb H.1.1,H.2.below hb H.2.1⟩
theorem LM.drew{w:World}{n:Nat}{a b c d e f g h:Value}(H:LM w n a b c d e f g h):LM w.drew n a b c d e f g h:=H
theorem iD(w:World)(a b c d e f g h:Value)(t:TypeId):LM ((w.alloc (.cells #[a,b,c,d] t)).alloc (.cells #[e,f,g,h] t)) w.heap.size a b c d e f g h:=by
 refine⟨(je w a b c d t).alloc _,?_⟩;have:=je (w.alloc (.cells #[a,b,c,d] t)) e f g h t;rw[World.size_alloc]at this;exact this
theorem rS(la lp lb lq ma mp mb mq:Int)(w:World)(h0:((la == ma)&&(lp == mp))=true):CB 100 #[lkA la lp lb lq,lkA ma mp mb mq] w (.bool true):=by
 have D0:=(Below.alN (Below.alN (Below.refl w w) (.cells #[la,lp,lb,lq] 118)) (.cells #[ma,mp,mb,mq] 118)).drew;have M0:=(iD w (.int .i64 la) (.int .i64 lp) (.int .i64 lb) (.int .i64 lq) (.int .i64 ma) (.int .i64 mp) (.int .i64 mb) (.int .i64 mq) 118).drew;have FL:Hid (∀w,CB 96 #[lkA la lp lb lq] w (plA la lp)):=λw=>dM _ _ _ _ w;have TL:Hid (∀w,CB 97 #[lkA la lp lb lq] w (plA lb lq)):=λw=>dN _ _ _ _ w;have FM:Hid (∀w,CB 96 #[lkA ma mp mb mq] w (plA ma mp)):=λw=>dM _ _ _ _ w;have TM:Hid (∀w,CB 97 #[lkA ma mp mb mq] w (plA mb mq)):=λw=>dN _ _ _ _ w;have P0:∀w,(binOp .eql 27 (plA la lp) (plA ma mp)).run prog w=.ok (.bool true) w:=λw=>by rw[cT,h0]
 clear h0;go_enter func100,ntmps100;go_wp2_with fail;refine wp_region_held_drew (S:=(λw'=>w'.cell? ⟨w,0,none⟩=some (.int .i64 la) /\ w'.cell? ⟨w,1,none⟩=some (.int .i64 lp) /\ w'.cell? ⟨w,2,none⟩=some (.int .i64 lb) /\ w'.cell? ⟨w,3,none⟩=some (.int .i64 lq) /\ w'.cell? ⟨w.heap.size+1,0,none⟩=some (.int .i64 ma) /\ w'.cell? ⟨w.heap.size+1,1,none⟩=some (.int .i64 mp) /\ w'.cell? ⟨w.heap.size+1,2,none⟩=some (.int .i64 mb) /\ w'.cell? ⟨w.heap.size+1,3,none⟩=some (.int .i64 mq))) (by kernel_rfl) (LM.cells (n:=w.heap.size) ‹_›) (λhHeld=>?_);refine tk 0 ?_;try simp only[ly]
 refine tk 2 ?_;try simp only[ly]
 refine rd 1 (λK hK=>?_);go_simp;refine(FL.out _).mono ?_;rintro e wz⟨rfl,hbz⟩;have Dz:=aa (W0:=w) hbz ‹_›;have Pz:=LM.keep (n:=w.heap.size) hbz ‹_›;clear hbz;try go_wp2_with fail
 clear hHeld;refine hK.out _ _ (LM.cells (n:=w.heap.size) ‹_›) (λhHeld=>?_);clear hK K;try simp only[ly]
 refine rd 3 (λK hK=>?_);go_simp;refine(FM.out _).mono ?_;rintro e wz⟨rfl,hbz⟩;have Dz:=aa (W0:=w) hbz ‹_›;have Pz:=LM.keep (n:=w.heap.size) hbz ‹_›;clear hbz;try go_wp2_with fail
 clear hHeld;refine hK.out _ _ (LM.cells (n:=w.heap.size) ‹_›) (λhHeld=>?_);clear hK K;try simp only[ly]
 refine tk 4 ?_;try simp only[ly]
 refine tk 5 ?_;try simp only[ly]
 refine tk0 6 ?_;try simp only[ly]
 refine tk0 7 ?_;try simp only[ly]
 refine tk0 8 ?_;try simp only[ly]
 refine tk0 9 ?_;try simp only[ly]
 refine tk0 10 ?_;try simp only[ly]
 refine tk 11 ?_;try simp only[ly]
 refine tk 12 ?_;try simp only[ly]
 refine tk0 13 ?_;try simp only[ly]
 refine tk0 14 ?_;try simp only[ly]
 refine tk0 15 ?_;try simp only[ly]
 refine tk0 16 ?_;try simp only[ly]
 refine tk0 17 ?_;try simp only[ly]
 refine tk 18 ?_;try simp only[ly]
 refine tk 19 ?_;try simp only[ly]
 refine tk0 20 ?_;try simp only[ly]
 refine tk0 21 ?_;try simp only[ly]
 refine tk0 22 ?_;try simp only[ly]
 refine tk0 23 ?_;try simp only[ly]
 refine tk0 24 ?_;try simp only[ly]
 refine tk 25 ?_;try simp only[ly]
 refine tk 26 ?_;try simp only[ly]
 refine wpAnyH_done (by kernel_rfl) ?_ _;go_wp2_with fail;go_ret;exact⟨rfl,by assumption⟩
theorem rT(la lp lb lq ma mp mb mq:Int)(w:World)(h0:((la == ma)&&(lp == mp))=false)(h1:((la == mb)&&(lp == mq))=true):CB 100 #[lkA la lp lb lq,lkA ma mp mb mq] w (.bool true):=by
 have D0:=(Below.alN (Below.alN (Below.refl w w) (.cells #[la,lp,lb,lq] 118)) (.cells #[ma,mp,mb,mq] 118)).drew;have M0:=(iD w (.int .i64 la) (.int .i64 lp) (.int .i64 lb) (.int .i64 lq) (.int .i64 ma) (.int .i64 mp) (.int .i64 mb) (.int .i64 mq) 118).drew;have FL:Hid (∀w,CB 96 #[lkA la lp lb lq] w (plA la lp)):=λw=>dM _ _ _ _ w;have TL:Hid (∀w,CB 97 #[lkA la lp lb lq] w (plA lb lq)):=λw=>dN _ _ _ _ w;have FM:Hid (∀w,CB 96 #[lkA ma mp mb mq] w (plA ma mp)):=λw=>dM _ _ _ _ w;have TM:Hid (∀w,CB 97 #[lkA ma mp mb mq] w (plA mb mq)):=λw=>dN _ _ _ _ w;have P0:∀w,(binOp .eql 27 (plA la lp) (plA ma mp)).run prog w=.ok (.bool false) w:=λw=>by rw[cT,h0]
 have P1:∀w,(binOp .eql 27 (plA la lp) (plA mb mq)).run prog w=.ok (.bool true) w:=λw=>by rw[cT,h1]
 clear h0 h1;go_enter func100,ntmps100;go_wp2_with fail;refine wp_region_held_drew (S:=(λw'=>w'.cell? ⟨w,0,none⟩=some (.int .i64 la) /\ w'.cell? ⟨w,1,none⟩=some (.int .i64 lp) /\ w'.cell? ⟨w,2,none⟩=some (.int .i64 lb) /\ w'.cell? ⟨w,3,none⟩=some (.int .i64 lq) /\ w'.cell? ⟨w.heap.size+1,0,none⟩=some (.int .i64 ma) /\ w'.cell? ⟨w.heap.size+1,1,none⟩=some (.int .i64 mp) /\ w'.cell? ⟨w.heap.size+1,2,none⟩=some (.int .i64 mb) /\ w'.cell? ⟨w.heap.size+1,3,none⟩=some (.int .i64 mq))) (by kernel_rfl) (LM.cells (n:=w.heap.size) ‹_›) (λhHeld=>?_);refine tk 0 ?_;try simp only[ly]
 refine tk 2 ?_;try simp only[ly]
 refine rd 1 (λK hK=>?_);go_simp;refine(FL.out _).mono ?_;rintro e wz⟨rfl,hbz⟩;have Dz:=aa (W0:=w) hbz ‹_›;have Pz:=LM.keep (n:=w.heap.size) hbz ‹_›;clear hbz;try go_wp2_with fail
 clear hHeld;refine hK.out _ _ (LM.cells (n:=w.heap.size) ‹_›) (λhHeld=>?_);clear hK K;try simp only[ly]
 refine rd 3 (λK hK=>?_);go_simp;refine(FM.out _).mono ?_;rintro e wz⟨rfl,hbz⟩;have Dz:=aa (W0:=w) hbz ‹_›;have Pz:=LM.keep (n:=w.heap.size) hbz ‹_›;clear hbz;try go_wp2_with fail
 clear hHeld;refine hK.out _ _ (LM.cells (n:=w.heap.size) ‹_›) (λhHeld=>?_);clear hK K;try simp only[ly]
 refine tk 4 ?_;try simp only[ly]
 refine tk 5 ?_;try simp only[ly]
 refine tk 6 ?_;try simp only[ly]
 refine tk 8 ?_;try simp only[ly]
 refine rd 7 (λK hK=>?_);go_simp;refine(FL.out _).mono ?_;rintro e wz⟨rfl,hbz⟩;have Dz:=aa (W0:=w) hbz ‹_›;have Pz:=LM.keep (n:=w.heap.size) hbz ‹_›;clear hbz;try go_wp2_with fail
 clear hHeld;refine hK.out _ _ (LM.cells (n:=w.heap.size) ‹_›) (λhHeld=>?_);clear hK K;try simp only[ly]
 refine rd 9 (λK hK=>?_);go_simp;refine(TM.out _).mono ?_;rintro e wz⟨rfl,hbz⟩;have Dz:=aa (W0:=w) hbz ‹_›;have Pz:=LM.keep (n:=w.heap.size) hbz ‹_›;clear hbz;try go_wp2_with fail
 clear hHeld;refine hK.out _ _ (LM.cells (n:=w.heap.size) ‹_›) (λhHeld=>?_);clear hK K;try simp only[ly]
 refine tk 10 ?_;try simp only[ly]
 refine tk 11 ?_;try simp only[ly]
 refine tk 12 ?_;try simp only[ly]
 refine tk0 13 ?_;try simp only[ly]
 refine tk0 14 ?_;try simp only[ly]
 refine tk0 15 ?_;try simp only[ly]
 refine tk0 16 ?_;try simp only[ly]
 refine tk0 17 ?_;try simp only[ly]
 refine tk 18 ?_;try simp only[ly]
 refine tk 19 ?_;try simp only[ly]
 refine tk0 20 ?_;try simp only[ly]
 refine tk0 21 ?_;try simp only[ly]
 refine tk0 22 ?_;try simp only[ly]
 refine tk0 23 ?_;try simp only[ly]
 refine tk0 24 ?_;try simp only[ly]
 refine tk 25 ?_;try simp only[ly]
 refine tk 26 ?_;try simp only[ly]
 refine wpAnyH_done (by kernel_rfl) ?_ _;go_wp2_with fail;go_ret;exact⟨rfl,by assumption⟩
theorem rU(la lp lb lq ma mp mb mq:Int)(w:World)(h0:((la == ma)&&(lp == mp))=false)(h1:((la == mb)&&(lp == mq))=false)(h2:((lb == ma)&&(lq == mp))=true):CB 100 #[lkA la lp lb lq,lkA ma mp mb mq] w (.bool true):=by
 have D0:=(Below.alN (Below.alN (Below.refl w w) (.cells #[la,lp,lb,lq] 118)) (.cells #[ma,mp,mb,mq] 118)).drew;have M0:=(iD w (.int .i64 la) (.int .i64 lp) (.int .i64 lb) (.int .i64 lq) (.int .i64 ma) (.int .i64 mp) (.int .i64 mb) (.int .i64 mq) 118).drew;have FL:Hid (∀w,CB 96 #[lkA la lp lb lq] w (plA la lp)):=λw=>dM _ _ _ _ w;have TL:Hid (∀w,CB 97 #[lkA la lp lb lq] w (plA lb lq)):=λw=>dN _ _ _ _ w;have FM:Hid (∀w,CB 96 #[lkA ma mp mb mq] w (plA ma mp)):=λw=>dM _ _ _ _ w;have TM:Hid (∀w,CB 97 #[lkA ma mp mb mq] w (plA mb mq)):=λw=>dN _ _ _ _ w;have P0:∀w,(binOp .eql 27 (plA la lp) (plA ma mp)).run prog w=.ok (.bool false) w:=λw=>by rw[cT,h0]
 have P1:∀w,(binOp .eql 27 (plA la lp) (plA mb mq)).run prog w=.ok (.bool false) w:=λw=>by rw[cT,h1]
 have P2:∀w,(binOp .eql 27 (plA lb lq) (plA ma mp)).run prog w=.ok (.bool true) w:=λw=>by rw[cT,h2]
 clear h0 h1 h2;go_enter func100,ntmps100;go_wp2_with fail;refine wp_region_held_drew (S:=(λw'=>w'.cell? ⟨w,0,none⟩=some (.int .i64 la) /\ w'.cell? ⟨w,1,none⟩=some (.int .i64 lp) /\ w'.cell? ⟨w,2,none⟩=some (.int .i64 lb) /\ w'.cell? ⟨w,3,none⟩=some (.int .i64 lq) /\ w'.cell? ⟨w.heap.size+1,0,none⟩=some (.int .i64 ma) /\ w'.cell? ⟨w.heap.size+1,1,none⟩=some (.int .i64 mp) /\ w'.cell? ⟨w.heap.size+1,2,none⟩=some (.int .i64 mb) /\ w'.cell? ⟨w.heap.size+1,3,none⟩=some (.int .i64 mq))) (by kernel_rfl) (LM.cells (n:=w.heap.size) ‹_›) (λhHeld=>?_);refine tk 0 ?_;try simp only[ly]
 refine tk 2 ?_;try simp only[ly]
 refine rd 1 (λK hK=>?_);go_simp;refine(FL.out _).mono ?_;rintro e wz⟨rfl,hbz⟩;have Dz:=aa (W0:=w) hbz ‹_›;have Pz:=LM.keep (n:=w.heap.size) hbz ‹_›;clear hbz;try go_wp2_with fail
 clear hHeld;refine hK.out _ _ (LM.cells (n:=w.heap.size) ‹_›) (λhHeld=>?_);clear hK K;try simp only[ly]
 refine rd 3 (λK hK=>?_);go_simp;refine(FM.out _).mono ?_;rintro e wz⟨rfl,hbz⟩;have Dz:=aa (W0:=w) hbz ‹_›;have Pz:=LM.keep (n:=w.heap.size) hbz ‹_›;clear hbz;try go_wp2_with fail
 clear hHeld;refine hK.out _ _ (LM.cells (n:=w.heap.size) ‹_›) (λhHeld=>?_);clear hK K;try simp only[ly]
 refine tk 4 ?_;try simp only[ly]
 refine tk 5 ?_;try simp only[ly]
 refine tk 6 ?_;try simp only[ly]
 refine tk 8 ?_;try simp only[ly]
 refine rd 7 (λK hK=>?_);go_simp;refine(FL.out _).mono ?_;rintro e wz⟨rfl,hbz⟩;have Dz:=aa (W0:=w) hbz ‹_›;have Pz:=LM.keep (n:=w.heap.size) hbz ‹_›;clear hbz;try go_wp2_with fail
 clear hHeld;refine hK.out _ _ (LM.cells (n:=w.heap.size) ‹_›) (λhHeld=>?_);clear hK K;try simp only[ly]
 refine rd 9 (λK hK=>?_);go_simp;refine(TM.out _).mono ?_;rintro e wz⟨rfl,hbz⟩;have Dz:=aa (W0:=w) hbz ‹_›;have Pz:=LM.keep (n:=w.heap.size) hbz ‹_›;clear hbz;try go_wp2_with fail
 clear hHeld;refine hK.out _ _ (LM.cells (n:=w.heap.size) ‹_›) (λhHeld=>?_);clear hK K;try simp only[ly]
 refine tk 10 ?_;try simp only[ly]
 refine tk 11 ?_;try simp only[ly]
 refine tk 12 ?_;try simp only[ly]
 refine tk 13 ?_;try simp only[ly]
 refine tk 15 ?_;try simp only[ly]
 refine rd 14 (λK hK=>?_);go_simp;refine(TL.out _).mono ?_;rintro e wz⟨rfl,hbz⟩;have Dz:=aa (W0:=w) hbz ‹_›;have Pz:=LM.keep (n:=w.heap.size) hbz ‹_›;clear hbz;try go_wp2_with fail
 clear hHeld;refine hK.out _ _ (LM.cells (n:=w.heap.size) ‹_›) (λhHeld=>?_);clear hK K;try simp only[ly]
 refine rd 16 (λK hK=>?_);go_simp;refine(FM.out _).mono ?_;rintro e wz⟨rfl,hbz⟩;have Dz:=aa (W0:=w) hbz ‹_›;have Pz:=LM.keep (n:=w.heap.size) hbz ‹_›;clear hbz;try go_wp2_with fail
 clear hHeld;refine hK.out _ _ (LM.cells (n:=w.heap.size) ‹_›) (λhHeld=>?_);clear hK K;try simp only[ly]
 refine tk 17 ?_;try simp only[ly]
 refine tk 18 ?_;try simp only[ly]
 refine tk 19 ?_;try simp only[ly]
 refine tk0 20 ?_;try simp only[ly]
 refine tk0 21 ?_;try simp only[ly]
 refine tk0 22 ?_;try simp only[ly]
 refine tk0 23 ?_;try simp only[ly]
 refine tk0 24 ?_;try simp only[ly]
 refine tk 25 ?_;try simp only[ly]
 refine tk 26 ?_;try simp only[ly]
 refine wpAnyH_done (by kernel_rfl) ?_ _;go_wp2_with fail;go_ret;exact⟨rfl,by assumption⟩
theorem rV(la lp lb lq ma mp mb mq:Int)(x3:Bool)(w:World)(h0:((la == ma)&&(lp == mp))=false)(h1:((la == mb)&&(lp == mq))=false)(h2:((lb == ma)&&(lq == mp))=false)(h3:((lb == mb)&&(lq == mq))=x3):CB 100 #[lkA la lp lb lq,lkA ma mp mb mq] w (.bool x3):=by
 have D0:=(Below.alN (Below.alN (Below.refl w w) (.cells #[la,lp,lb,lq] 118)) (.cells #[ma,mp,mb,mq] 118)).drew;have M0:=(iD w (.int .i64 la) (.int .i64 lp) (.int .i64 lb) (.int .i64 lq) (.int .i64 ma) (.int .i64 mp) (.int .i64 mb) (.int .i64 mq) 118).drew;have FL:Hid (∀w,CB 96 #[lkA la lp lb lq] w (plA la lp)):=λw=>dM _ _ _ _ w;have TL:Hid (∀w,CB 97 #[lkA la lp lb lq] w (plA lb lq)):=λw=>dN _ _ _ _ w;have FM:Hid (∀w,CB 96 #[lkA ma mp mb mq] w (plA ma mp)):=λw=>dM _ _ _ _ w;have TM:Hid (∀w,CB 97 #[lkA ma mp mb mq] w (plA mb mq)):=λw=>dN _ _ _ _ w;have P0:∀w,(binOp .eql 27 (plA la lp) (plA ma mp)).run prog w=.ok (.bool false) w:=λw=>by rw[cT,h0]
 have P1:∀w,(binOp .eql 27 (plA la lp) (plA mb mq)).run prog w=.ok (.bool false) w:=λw=>by rw[cT,h1]
 have P2:∀w,(binOp .eql 27 (plA lb lq) (plA ma mp)).run prog w=.ok (.bool false) w:=λw=>by rw[cT,h2]
 have P3:∀w,(binOp .eql 27 (plA lb lq) (plA mb mq)).run prog w=.ok (.bool x3) w:=λw=>by rw[cT,h3]
 clear h0 h1 h2 h3;go_enter func100,ntmps100;go_wp2_with fail;refine wp_region_held_drew (S:=(λw'=>w'.cell? ⟨w,0,none⟩=some (.int .i64 la) /\ w'.cell? ⟨w,1,none⟩=some (.int .i64 lp) /\ w'.cell? ⟨w,2,none⟩=some (.int .i64 lb) /\ w'.cell? ⟨w,3,none⟩=some (.int .i64 lq) /\ w'.cell? ⟨w.heap.size+1,0,none⟩=some (.int .i64 ma) /\ w'.cell? ⟨w.heap.size+1,1,none⟩=some (.int .i64 mp) /\ w'.cell? ⟨w.heap.size+1,2,none⟩=some (.int .i64 mb) /\ w'.cell? ⟨w.heap.size+1,3,none⟩=some (.int .i64 mq))) (by kernel_rfl) (LM.cells (n:=w.heap.size) ‹_›) (λhHeld=>?_);refine tk 0 ?_;try simp only[ly]
 refine tk 2 ?_;try simp only[ly]
 refine rd 1 (λK hK=>?_);go_simp;refine(FL.out _).mono ?_;rintro e wz⟨rfl,hbz⟩;have Dz:=aa (W0:=w) hbz ‹_›;have Pz:=LM.keep (n:=w.heap.size) hbz ‹_›;clear hbz;try go_wp2_with fail
 clear hHeld;refine hK.out _ _ (LM.cells (n:=w.heap.size) ‹_›) (λhHeld=>?_);clear hK K;try simp only[ly]
 refine rd 3 (λK hK=>?_);go_simp;refine(FM.out _).mono ?_;rintro e wz⟨rfl,hbz⟩;have Dz:=aa (W0:=w) hbz ‹_›;have Pz:=LM.keep (n:=w.heap.size) hbz ‹_›;clear hbz;try go_wp2_with fail
 clear hHeld;refine hK.out _ _ (LM.cells (n:=w.heap.size) ‹_›) (λhHeld=>?_);clear hK K;try simp only[ly]
 refine tk 4 ?_;try simp only[ly]
 refine tk 5 ?_;try simp only[ly]
 refine tk 6 ?_;try simp only[ly]
 refine tk 8 ?_;try simp only[ly]
 refine rd 7 (λK hK=>?_);go_simp;refine(FL.out _).mono ?_;rintro e wz⟨rfl,hbz⟩;have Dz:=aa (W0:=w) hbz ‹_›;have Pz:=LM.keep (n:=w.heap.size) hbz ‹_›;clear hbz;try go_wp2_with fail
 clear hHeld;refine hK.out _ _ (LM.cells (n:=w.heap.size) ‹_›) (λhHeld=>?_);clear hK K;try simp only[ly]
 refine rd 9 (λK hK=>?_);go_simp;refine(TM.out _).mono ?_;rintro e wz⟨rfl,hbz⟩;have Dz:=aa (W0:=w) hbz ‹_›;have Pz:=LM.keep (n:=w.heap.size) hbz ‹_›;clear hbz;try go_wp2_with fail
 clear hHeld;refine hK.out _ _ (LM.cells (n:=w.heap.size) ‹_›) (λhHeld=>?_);clear hK K;try simp only[ly]
 refine tk 10 ?_;try simp only[ly]
 refine tk 11 ?_;try simp only[ly]
 refine tk 12 ?_;try simp only[ly]
 refine tk 13 ?_;try simp only[ly]
 refine tk 15 ?_;try simp only[ly]
 refine rd 14 (λK hK=>?_);go_simp;refine(TL.out _).mono ?_;rintro e wz⟨rfl,hbz⟩;have Dz:=aa (W0:=w) hbz ‹_›;have Pz:=LM.keep (n:=w.heap.size) hbz ‹_›;clear hbz;try go_wp2_with fail
 clear hHeld;refine hK.out _ _ (LM.cells (n:=w.heap.size) ‹_›) (λhHeld=>?_);clear hK K;try simp only[ly]
 refine rd 16 (λK hK=>?_);go_simp;refine(FM.out _).mono ?_;rintro e wz⟨rfl,hbz⟩;have Dz:=aa (W0:=w) hbz ‹_›;have Pz:=LM.keep (n:=w.heap.size) hbz ‹_›;clear hbz;try go_wp2_with fail
 clear hHeld;refine hK.out _ _ (LM.cells (n:=w.heap.size) ‹_›) (λhHeld=>?_);clear hK K;try simp only[ly]
 refine tk 17 ?_;try simp only[ly]
 refine tk 18 ?_;try simp only[ly]
 refine tk 19 ?_;try simp only[ly]
 refine tk 20 ?_;try simp only[ly]
 refine tk 22 ?_;try simp only[ly]
 refine rd 21 (λK hK=>?_);go_simp;refine(TL.out _).mono ?_;rintro e wz⟨rfl,hbz⟩;have Dz:=aa (W0:=w) hbz ‹_›;have Pz:=LM.keep (n:=w.heap.size) hbz ‹_›;clear hbz;try go_wp2_with fail
 clear hHeld;refine hK.out _ _ (LM.cells (n:=w.heap.size) ‹_›) (λhHeld=>?_);clear hK K;try simp only[ly]
 refine rd 23 (λK hK=>?_);go_simp;refine(TM.out _).mono ?_;rintro e wz⟨rfl,hbz⟩;have Dz:=aa (W0:=w) hbz ‹_›;have Pz:=LM.keep (n:=w.heap.size) hbz ‹_›;clear hbz;try go_wp2_with fail
 clear hHeld;refine hK.out _ _ (LM.cells (n:=w.heap.size) ‹_›) (λhHeld=>?_);clear hK K;try simp only[ly]
 refine tk 24 ?_;try simp only[ly]
 refine tk 25 ?_;try simp only[ly]
 refine tk 26 ?_;try simp only[ly]
 refine wpAnyH_done (by kernel_rfl) ?_ _;go_wp2_with fail;go_ret;exact⟨rfl,by assumption⟩
theorem rW(l m:Lk)(w:World):CB 100 #[lkA l.a l.p l.b l.q,lkA m.a m.p m.b m.q] w (.bool (meetB l m)):=by
 unfold meetB;cases h0:((l.a == m.a)&&(l.p == m.p))
 ·cases h1:((l.a == m.b)&&(l.p == m.q))
  ·cases h2:((l.b == m.a)&&(l.q == m.p))
   ·exact rV _ _ _ _ _ _ _ _ _ w h0 h1 h2 rfl
   ·exact rU _ _ _ _ _ _ _ _ w h0 h1 h2
  ·exact rT _ _ _ _ _ _ _ _ w h0 h1
 ·exact rS _ _ _ _ _ _ _ _ w h0
theorem rX(o l:Lk)(n0:Nat)(w:World)(hT:Lk4 w n0 (.int .i64 l.a) (.int .i64 l.p) (.int .i64 l.b) (.int .i64 l.q)) :
  CB 99 #[lkA o.a o.p o.b o.q,.pointer n0] w (.bool (meetB o l)):=by
 have D0:=Below.alN (Below.refl w w) (.cells #[o.a,o.p,o.b,o.q] 118);have T1:=hT.alloc (.cells #[o.a,o.p,o.b,o.q] 118);obtain⟨l0,g0,g1,g2,g3⟩:=T1;have SM:Hid (∀w,CB 100 #[lkA o.a o.p o.b o.q,lkA l.a l.p l.b l.q] w (.bool (meetB o l))):=λw=>rW o l w;clear hT;generalize meetB o l=x at *;generalize o.a=oa at *;generalize o.p=op at *;generalize o.b=ob at *;generalize o.q=oq at *;generalize l.a=la at *;generalize l.p=lp at *;generalize l.b=lb at *;generalize l.q=lq at *;go_enter func99,ntmps99;go_wp2_with fail;refine(SM.out _).mono ?_;rintro e w1⟨rfl,hb1⟩;have D1:=aa hb1 D0;clear D0 hb1 g0 g1 g2 g3 SM;go_wp2_with fail;go_ret;exact⟨rfl,D1⟩
theorem rY{ls:List Lk}{k:Nat}{m l:Lk}(h:ls[k]?=some m):(ls.take (k+1)).any (λm=>meetB m l)=((ls.take k).any (λm=>meetB m l)||meetB m l):=by
 obtain⟨hk,e⟩:=List.getElem?_eq_some_iff.1 h;rw[List.take_succ_eq_append_getElem hk,e];simp
theorem rZ(A:Option Addr)(n cap:Nat)(ls:List Lk)(l:Lk)(n0:Nat)(w:World)(hL:Hid (Links w w (.slice A n cap) ls))(hT:Hid (Lk4 w n0 (.int .i64 l.a) (.int .i64 l.p) (.int .i64 l.b) (.int .i64 l.q))) :
  Cl 128 #[.slice A n cap,.func (.func 99) #[] #[.pointer n0]] w λe w'=>∃j:Int,e=.returned j /\ Hid (decide (0<=j)=ls.any (λm=>meetB m l)) /\ Below w w w':=by
 obtain⟨rfl,hc,hm⟩:=hL.out.len;unfold maxLen at hm;go_enter func128,ntmps128;go_wp2_with fail;go_loopw[8] (λi wr=>∃k:Nat,i=.int .i64 (k:Int) /\ k<=ls.length /\ Below w w wr /\ Hid ((ls.take k).any (λm=>meetB m l)=false)) (λi _=>ls.length-(intOf i).toNat)
 case atStart=>exact⟨0,rfl,by omega,Below.refl _ _,rfl⟩
 case round =>
  obtain⟨k,rfl,hk,D1,hno⟩:=hrel;by_cases hlt:k<ls.length
  ·obtain⟨m,hxk⟩:∃m,ls[k]?=some m:=⟨_,List.getElem?_eq_getElem hlt⟩;obtain⟨b,o,rfl,hb,c0,c1,c2,c3⟩:=(hL.out.below D1).at hxk;have PR:Hid (CB 99 #[lkA m.a m.p m.b m.q,.pointer n0] wr (.bool (meetB m l))):=rX m l n0 wr (hT.out.below D1 hT.out.1);have HX:Hid (ls[k]?=some m):=hxk;have k1:(0:Int)<=(k:Int):=by omega
   have k2:(k:Int)<(ls.length:Int):=by omega
   clear hL hxk hT;cases hv:meetB m l
   ·rw[hv]at PR;have HV:Hid ((ls.take (k+1)).any (λm=>meetB m l)=false):=by show _=_;rw[rY HX.out,hno.out,hv];rfl
    clear hv hno HX;generalize m.a=ma at *;generalize m.p=mp at *;generalize m.b=mb at *;generalize m.q=mq at *;go_wp2_with fail;refine PR.out.mono ?_;rintro e w2⟨rfl,hb2⟩;have D2:=aa hb2 D1;clear hb2 D1 c0 c1 c2 c3 PR;go_wp2_with fail;go_roundw
    case rel=>exact⟨k+1,by go_num,by omega,D2,HV⟩
    case measure=>simp[intOf];omega
   ·rw[hv]at PR;have fin:Hid (ls.any (λm=>meetB m l)=true):=List.any_eq_true.2 ⟨m,List.mem_of_getElem? HX.out,hv⟩;clear hv hno HX;generalize m.a=ma at *;generalize m.p=mp at *;generalize m.b=mb at *;generalize m.q=mq at *;go_wp2_with fail;refine PR.out.mono ?_;rintro e w2⟨rfl,hb2⟩;have D2:=aa hb2 D1;clear hb2 D1 c0 c1 c2 c3 PR;go_wp2_with fail;go_ret;exact⟨_,rfl,(by show _=_;rw[fin.out];simp),D2⟩
  ·have fin:Hid (ls.any (λm=>meetB m l)=false):=by
    have:=hno.out;rw[show k=ls.length by omega,List.take_length]at this;exact this
   go_wp2_with fail;go_ret;exact⟨_,rfl,(by show _=_;rw[fin.out];simp),D1⟩
theorem se(A:Option Addr)(n cap:Nat)(ls:List Lk)(l:Lk)(n0:Nat)(w:World)(hL:Hid (Links w w (.slice A n cap) ls))(hT:Hid (Lk4 w n0 (.int .i64 l.a) (.int .i64 l.p) (.int .i64 l.b) (.int .i64 l.q))) :
  CB 98 #[.slice A n cap,.func (.func 99) #[] #[.pointer n0]] w (.bool (ls.any (λm=>meetB m l))):=by
 have IX:Hid (Cl 128 #[.slice A n cap,.func (.func 99) #[] #[.pointer n0]] w λe w'=>∃j:Int,e=.returned j /\ Hid (decide (0<=j)=ls.any (λm=>meetB m l)) /\ Below w w w'):=rZ A n cap ls l n0 w hL hT;clear hL hT;generalize ls.any (λm=>meetB m l)=x at *;go_enter func98,ntmps98;go_wp2_with fail;refine IX.out.mono ?_;rintro e w2⟨j,rfl,hj,hb2⟩;clear IX;go_wp2_with fail;go_ret;exact⟨by rw[hj.out];rfl,hb2⟩
theorem hasPlace_any(d p:Int)(A:Option Addr)(n cap:Nat)(vl:Value)(ds:List Dv)(w:World)(hD:Hid (Devs w w (.slice A n cap) ds)) :
  CB 95 #[.agg #[.slice A n cap,vl],plA d p] w (.bool (isPl ds d p)):=by
 obtain⟨rfl,hc,hm⟩:=hD.out.len;unfold maxLen at hm;have D0:=Below.alN (Below.alN (Below.refl w w) (.cells #[.slice A ds.length cap,vl] 25)) (.cells #[d,p] 27);have B1:=(fB w (.slice A ds.length cap) vl 25).alloc (.cells #[d,p] 27);have B0:=fB (w.alloc (.cells #[.slice A ds.length cap,vl] 25)) (.int .i64 d) (.int .i64 p) 27;rw[World.size_alloc]at B0;obtain⟨_,q0,q1,_⟩:=id B0;obtain⟨_,q2,_,_⟩:=id B1;unfold isPl;cases h0:decide (0<=d)
 ·go_enter func95,ntmps95;go_wp2_with fail
  go_quiet (fail)
  go_wp2_with fail;go_ret;exact⟨by simp,dI D0 _⟩
 cases h1:decide (d<(ds.length:Int))
 ·go_enter func95,ntmps95;go_wp2_with fail
  go_quiet (fail)
  go_wp2_with fail;go_ret;exact⟨by simp,dI D0 _⟩
 cases h2:decide (0<=p)
 ·go_enter func95,ntmps95;go_wp2_with fail
  go_quiet (fail)
  go_wp2_with fail;go_ret;exact⟨by simp,dI D0 _⟩
 have hd0:0<=d:=by simpa using h0
 have hd1:d<(ds.length:Int):=by simpa using h1
 obtain⟨i,rfl⟩:∃i:Nat,d=(i:Int):=⟨d.toNat,by omega⟩;have hi:i<ds.length:=by omega
 obtain⟨x,hx⟩:∃x,ds[i]?=some x:=⟨_,List.getElem?_eq_getElem hi⟩;obtain⟨b,o,vb,vr,vt,rfl,hb,_,_,_,c0,c1,c2,c3,c4,c5,c6⟩:=(hD.out.below D0).at hx;have ek:aW ds (i:Int)=x.kind:=by
  unfold aW;rw[Int.toNat_natCast,hx];rfl
 rw[ek];have PO:Hid (∀w,CS 62 #[.int .i64 x.kind] w (.int .i64 (portsV x.kind))):=λw=>jd x.kind w;clear hD hx ek c0 c2 c3 c4 c5 c6 hd0 hd1;generalize portsV x.kind=pk at *;generalize x.kind=kd at *;go_enter func95,ntmps95;go_wp2_with fail
 go_quiet ((go_at_call 62;exact Calls.quiet_of_same (PO.out _)))
 go_wp2_with fail;go_ret;exact⟨by simp,dI D0 _⟩
def LB(w:World)(n:Nat)(x y a b c d:Value):Prop:=Box2 w n x y /\ Lk4 w (n+1) a b c d
theorem LB.cells{w:World}{n:Nat}{x y a b c d:Value}(H:LB w n x y a b c d):w.cell? ⟨n,0,none⟩=some x /\ w.cell? ⟨n,1,none⟩=some y /\ w.cell? ⟨n+1,0,none⟩=some a /\ w.cell? ⟨n+1,1,none⟩=some b /\ w.cell? ⟨n+1,2,none⟩=some c /\ w.cell? ⟨n+1,3,none⟩=some d:=by
 obtain⟨⟨_,h1,h2,_⟩,⟨_,h5,h6,h7,h8⟩⟩:=H;exact⟨h1,h2,h5,h6,h7,h8⟩
theorem LB.keep{W w':World}{n:Nat}{x y a b c d:Value}(hb:Below W W w')(H:LB W n x y a b c d):LB w' n x y a b c d:=⟨H.1.below hb H.1.1,H.2.below hb H.2.1⟩
theorem LB.drew{w:World}{n:Nat}{x y a b c d:Value}(H:LB w n x y a b c d):LB w.drew n x y a b c d:=H
theorem sf(w:World)(x y a b c d:Value)(s t:TypeId):LB ((w.alloc (.cells #[x,y] s)).alloc (.cells #[a,b,c,d] t)) w.heap.size x y a b c d:=by
 refine⟨(fB w x y s).alloc _,?_⟩;have:=je (w.alloc (.cells #[x,y] s)) a b c d t;rw[World.size_alloc]at this;exact this
def linkTold(ds:List Dv)(ahead:List Lk)(l:Lk):Int:=if isPl ds l.a l.p&&isPl ds l.b l.q then(if selfB l||ahead.any (λm=>meetB m l)then 5 else 0)else 1
theorem sg(A B:Option Addr)(cap e9:Nat)(ds:List Dv)(ls:List Lk)(j:Nat)(l:Lk)(w:World)(hx:Hid (ls[j]?=some l))(hD:Hid (Devs w w (.slice A ds.length cap) ds))(hL:Hid (Links w w (.slice B ls.length e9) ls)) :
  CB 58 #[.agg #[.slice A ds.length cap,.slice B ls.length e9],(j:Int)] w (.int .i64 (linkTold ds (ls.take j) l)):=by
 have hj:j<ls.length:=(List.getElem?_eq_some_iff.1 hx.out).1;obtain⟨_,hc,hm⟩:=hL.out.len;unfold maxLen at hm;have D0:=Below.alN (Below.refl w w) (.cells #[.slice A ds.length cap,.slice B ls.length e9] 25);obtain⟨b,o,rfl,hb,c0,c1,c2,c3⟩:=(hL.out.below D0).at hx.out;have k1:(0:Int)<=(j:Int):=by omega
 have k2:(j:Int)<(ls.length:Int):=by omega
 have k3:(j:Int)<=(e9:Int):=by omega
 have FL:Hid (∀w,CB 96 #[lkA l.a l.p l.b l.q] w (plA l.a l.p)):=λw=>dM _ _ _ _ w;have TL:Hid (∀w,CB 97 #[lkA l.a l.p l.b l.q] w (plA l.b l.q)):=λw=>dN _ _ _ _ w;have I1:Hid (∀W,Below w w W->CB 95 #[.agg #[.slice A ds.length cap,.slice (some ⟨b,o,none⟩) ls.length e9],plA l.a l.p] W (.bool (isPl ds l.a l.p))):=λW h=>hasPlace_any _ _ _ _ _ _ _ W ((hD.out.below h).mono h.size);have I2:Hid (∀W,Below w w W->CB 95 #[.agg #[.slice A ds.length cap,.slice (some ⟨b,o,none⟩) ls.length e9],plA l.b l.q] W (.bool (isPl ds l.b l.q))):=λW h=>hasPlace_any _ _ _ _ _ _ _ W ((hD.out.below h).mono h.size);have CO:Hid (∀W,Below w w W->LB W w.heap.size (.slice A ds.length cap) (.slice (some ⟨b,o,none⟩) ls.length e9) (.int .i64 l.a) (.int .i64 l.p) (.int .i64 l.b) (.int .i64 l.q)->CB 98 #[.slice (some ⟨b,o,none⟩) j e9,.func (.func 99) #[] #[.pointer (some ⟨w.heap.size+1,0,none⟩)]] W (.bool ((ls.take j).any (λm=>meetB m l)))):=λW h hT=>se _ _ _ _ l _ W (Links.mono (SlAt.take (hL.out.below h) j (by omega)) h.size) hT.2;have PE:∀w,(binOp .eql 27 (plA l.a l.p) (plA l.b l.q)).run prog w=.ok (.bool (selfB l)) w:=λw=>cT _ _ _ _ w;generalize hres:linkTold ds (ls.take j) l=res;have HR:Hid (res=if isPl ds l.a l.p&&isPl ds l.b l.q then(if selfB l||(ls.take j).any (λm=>meetB m l)then 5 else 0)else 1):=hres.symm;clear hres hL hD hx;generalize isPl ds l.a l.p=x0 at *;generalize isPl ds l.b l.q=x1 at *;generalize selfB l=x2 at *;generalize (ls.take j).any (λm=>meetB m l)=x3 at *;generalize l.a=la at *;generalize l.p=lp at *;generalize l.b=lb at *;generalize l.q=lq at *;have D1:=(Below.alN D0 (.cells #[la,lp,lb,lq] 118)).drew;have M1:=(sf w (.slice A ds.length cap) (.slice (some ⟨b,o,none⟩) ls.length e9) (.int .i64 la) (.int .i64 lp) (.int .i64 lb) (.int .i64 lq) 25 118).drew;clear D0;go_enter func58,ntmps58;go_wp2_with fail;go_region;clear c0 c1 c2 c3;have D2:=D1.drew;have M2:=M1.drew;clear D1 M1;cases x0
 ·have HV:Hid (res=1):=by show _=_;rw[HR.out];rfl
  clear HR I2 CO PE TL;go_wp2_with fail;refine wp_region_held_drew (S:=(λw'=>w'.cell? ⟨w,0,none⟩=some (.slice A ds.length cap) /\ w'.cell? ⟨w,1,none⟩=some (.slice (some ⟨b,o,none⟩) ls.length e9) /\ w'.cell? ⟨w.heap.size+1,0,none⟩=some (.int .i64 la) /\ w'.cell? ⟨w.heap.size+1,1,none⟩=some (.int .i64 lp) /\ w'.cell? ⟨w.heap.size+1,2,none⟩=some (.int .i64 lb) /\ w'.cell? ⟨w.heap.size+1,3,none⟩=some (.int .i64 lq))) (by kernel_rfl) (LB.cells (n:=w.heap.size) ‹_›) (λhHeld=>?_);refine tk 0 ?_;try simp only[ly]
  refine tk 1 ?_;try simp only[ly]
  refine rd 2 (λK hK=>?_);go_simp;refine(FL.out _).mono ?_;rintro e wz⟨rfl,hbz⟩;have Dz:=aa (W0:=w) hbz ‹_›;have Pz:=LB.keep (n:=w.heap.size) hbz ‹_›;clear hbz;try go_wp2_with fail
  clear hHeld;refine hK.out _ _ (LB.cells (n:=w.heap.size) ‹_›) (λhHeld=>?_);clear hK K;try simp only[ly]
  refine rd 3 (λK hK=>?_);go_simp;refine(I1.out _ ‹_›).mono ?_;rintro e wz⟨rfl,hbz⟩;have Dz:=aa (W0:=w) hbz ‹_›;have Pz:=LB.keep (n:=w.heap.size) hbz ‹_›;clear hbz;try go_wp2_with fail
  clear hHeld;refine hK.out _ _ (LB.cells (n:=w.heap.size) ‹_›) (λhHeld=>?_);clear hK K;try simp only[ly]
  refine tk 4 ?_;try simp only[ly]
  refine tk 5 ?_;try simp only[ly]
  refine tk0 6 ?_;try simp only[ly]
  refine tk0 7 ?_;try simp only[ly]
  refine tk0 8 ?_;try simp only[ly]
  refine tk0 9 ?_;try simp only[ly]
  refine tk0 10 ?_;try simp only[ly]
  refine tk 11 ?_;try simp only[ly]
  refine wpAnyH_done (by kernel_rfl) ?_ _;go_wp2_with fail;go_ret;exact⟨by rw[HV.out];rfl,by assumption⟩
 ·have HR1:Hid (res=if x1 then(if x2||x3 then 5 else 0)else 1):=by show _=_;rw[HR.out];rfl
  clear HR;go_wp2_with fail;refine wp_region_held_drew (S:=(λw'=>w'.cell? ⟨w,0,none⟩=some (.slice A ds.length cap) /\ w'.cell? ⟨w,1,none⟩=some (.slice (some ⟨b,o,none⟩) ls.length e9) /\ w'.cell? ⟨w.heap.size+1,0,none⟩=some (.int .i64 la) /\ w'.cell? ⟨w.heap.size+1,1,none⟩=some (.int .i64 lp) /\ w'.cell? ⟨w.heap.size+1,2,none⟩=some (.int .i64 lb) /\ w'.cell? ⟨w.heap.size+1,3,none⟩=some (.int .i64 lq))) (by kernel_rfl) (LB.cells (n:=w.heap.size) ‹_›) (λhHeld=>?_);refine tk 0 ?_;try simp only[ly]
  refine tk 1 ?_;try simp only[ly]
  refine rd 2 (λK hK=>?_);go_simp;refine(FL.out _).mono ?_;rintro e wz⟨rfl,hbz⟩;have Dz:=aa (W0:=w) hbz ‹_›;have Pz:=LB.keep (n:=w.heap.size) hbz ‹_›;clear hbz;try go_wp2_with fail
  clear hHeld;refine hK.out _ _ (LB.cells (n:=w.heap.size) ‹_›) (λhHeld=>?_);clear hK K;try simp only[ly]
  refine rd 3 (λK hK=>?_);go_simp;refine(I1.out _ ‹_›).mono ?_;rintro e wz⟨rfl,hbz⟩;have Dz:=aa (W0:=w) hbz ‹_›;have Pz:=LB.keep (n:=w.heap.size) hbz ‹_›;clear hbz;try go_wp2_with fail
  clear hHeld;refine hK.out _ _ (LB.cells (n:=w.heap.size) ‹_›) (λhHeld=>?_);clear hK K;try simp only[ly]
  refine tk 4 ?_;try simp only[ly]
  refine tk 5 ?_;try simp only[ly]
  refine tk 6 ?_;try simp only[ly]
  refine tk 7 ?_;try simp only[ly]
  refine rd 8 (λK hK=>?_);go_simp;refine(TL.out _).mono ?_;rintro e wz⟨rfl,hbz⟩;have Dz:=aa (W0:=w) hbz ‹_›;have Pz:=LB.keep (n:=w.heap.size) hbz ‹_›;clear hbz;try go_wp2_with fail
  clear hHeld;refine hK.out _ _ (LB.cells (n:=w.heap.size) ‹_›) (λhHeld=>?_);clear hK K;try simp only[ly]
  refine rd 9 (λK hK=>?_);go_simp;refine(I2.out _ ‹_›).mono ?_;rintro e wz⟨rfl,hbz⟩;have Dz:=aa (W0:=w) hbz ‹_›;have Pz:=LB.keep (n:=w.heap.size) hbz ‹_›;clear hbz;try go_wp2_with fail
  clear hHeld;refine hK.out _ _ (LB.cells (n:=w.heap.size) ‹_›) (λhHeld=>?_);clear hK K;try simp only[ly]
  refine tk 10 ?_;try simp only[ly]
  refine tk 11 ?_;try simp only[ly]
  refine wpAnyH_done (by kernel_rfl) ?_ _;cases x1
  ·go_wp2_with fail;go_ret;exact⟨by rw[HR1.out];rfl,by assumption⟩
  clear D2 M2;cases x2
  ·have HV:Hid (res=if x3 then 5 else 0):=by show _=_;rw[HR1.out];rfl
   clear HR1;go_wp2_with fail;refine wp_region_held_drew (S:=(λw'=>w'.cell? ⟨w,0,none⟩=some (.slice A ds.length cap) /\ w'.cell? ⟨w,1,none⟩=some (.slice (some ⟨b,o,none⟩) ls.length e9) /\ w'.cell? ⟨w.heap.size+1,0,none⟩=some (.int .i64 la) /\ w'.cell? ⟨w.heap.size+1,1,none⟩=some (.int .i64 lp) /\ w'.cell? ⟨w.heap.size+1,2,none⟩=some (.int .i64 lb) /\ w'.cell? ⟨w.heap.size+1,3,none⟩=some (.int .i64 lq))) (by kernel_rfl) (LB.cells (n:=w.heap.size) (by first|assumption|exact Below.drew ‹_›|exact LB.drew ‹_›)) (λhHeld=>?_);refine tk 0 ?_ (hS:=by first|assumption|exact Below.drew ‹_›|exact LB.drew ‹_›);try simp only[ly]
   refine tk 2 ?_ (hS:=by first|assumption|exact Below.drew ‹_›|exact LB.drew ‹_›);try simp only[ly]
   refine rd 1 (λK hK=>?_);go_simp;refine(FL.out _).mono ?_;rintro e wz⟨rfl,hbz⟩;have Dz:=aa (W0:=w) hbz (by first|assumption|exact Below.drew ‹_›|exact LB.drew ‹_›);have Pz:=LB.keep (n:=w.heap.size) hbz (by first|assumption|exact Below.drew ‹_›|exact LB.drew ‹_›);clear hbz;try go_wp2_with fail
   clear hHeld;refine hK.out _ _ (LB.cells (n:=w.heap.size) (by first|assumption|exact Below.drew ‹_›|exact LB.drew ‹_›)) (λhHeld=>?_);clear hK K;try simp only[ly]
   refine rd 3 (λK hK=>?_);go_simp;refine(TL.out _).mono ?_;rintro e wz⟨rfl,hbz⟩;have Dz:=aa (W0:=w) hbz (by first|assumption|exact Below.drew ‹_›|exact LB.drew ‹_›);have Pz:=LB.keep (n:=w.heap.size) hbz (by first|assumption|exact Below.drew ‹_›|exact LB.drew ‹_›);clear hbz;try go_wp2_with fail
   clear hHeld;refine hK.out _ _ (LB.cells (n:=w.heap.size) (by first|assumption|exact Below.drew ‹_›|exact LB.drew ‹_›)) (λhHeld=>?_);clear hK K;try simp only[ly]
   refine tk 4 ?_ (hS:=by first|assumption|exact Below.drew ‹_›|exact LB.drew ‹_›);try simp only[ly]
   refine tk 5 ?_ (hS:=by first|assumption|exact Below.drew ‹_›|exact LB.drew ‹_›);try simp only[ly]
   refine tk 6 ?_ (hS:=by first|assumption|exact Below.drew ‹_›|exact LB.drew ‹_›);try simp only[ly]
   refine tk 7 ?_ (hS:=by first|assumption|exact Below.drew ‹_›|exact LB.drew ‹_›);try simp only[ly]
   refine rd 8 (λK hK=>?_);go_simp;refine(CO.out _ (by first|assumption|exact Below.drew ‹_›|exact LB.drew ‹_›) (by first|assumption|exact Below.drew ‹_›|exact LB.drew ‹_›)).mono ?_;rintro e wz⟨rfl,hbz⟩;have Dz:=aa (W0:=w) hbz (by first|assumption|exact Below.drew ‹_›|exact LB.drew ‹_›);have Pz:=LB.keep (n:=w.heap.size) hbz (by first|assumption|exact Below.drew ‹_›|exact LB.drew ‹_›);clear hbz;try go_wp2_with fail
   clear hHeld;refine hK.out _ _ (LB.cells (n:=w.heap.size) (by first|assumption|exact Below.drew ‹_›|exact LB.drew ‹_›)) (λhHeld=>?_);clear hK K;try simp only[ly]
   refine tk 9 ?_ (hS:=by first|assumption|exact Below.drew ‹_›|exact LB.drew ‹_›);try simp only[ly]
   refine wpAnyH_done (by kernel_rfl) ?_ _;cases x3
   ·go_wp2_with fail;go_ret;exact⟨by rw[HV.out];rfl,by first|assumption|exact Below.drew ‹_›|exact LB.drew ‹_›⟩
   ·go_wp2_with fail;go_ret;exact⟨by rw[HV.out];rfl,by first|assumption|exact Below.drew ‹_›|exact LB.drew ‹_›⟩
  ·have HV:Hid (res=5):=by show _=_;rw[HR1.out];rfl
   clear HR1;go_wp2_with fail;refine wp_region_held_drew (S:=(λw'=>w'.cell? ⟨w,0,none⟩=some (.slice A ds.length cap) /\ w'.cell? ⟨w,1,none⟩=some (.slice (some ⟨b,o,none⟩) ls.length e9) /\ w'.cell? ⟨w.heap.size+1,0,none⟩=some (.int .i64 la) /\ w'.cell? ⟨w.heap.size+1,1,none⟩=some (.int .i64 lp) /\ w'.cell? ⟨w.heap.size+1,2,none⟩=some (.int .i64 lb) /\ w'.cell? ⟨w.heap.size+1,3,none⟩=some (.int .i64 lq))) (by kernel_rfl) (LB.cells (n:=w.heap.size) (by first|assumption|exact Below.drew ‹_›|exact LB.drew ‹_›)) (λhHeld=>?_);refine tk 0 ?_ (hS:=by first|assumption|exact Below.drew ‹_›|exact LB.drew ‹_›);try simp only[ly]
   refine tk 2 ?_ (hS:=by first|assumption|exact Below.drew ‹_›|exact LB.drew ‹_›);try simp only[ly]
   refine rd 1 (λK hK=>?_);go_simp;refine(FL.out _).mono ?_;rintro e wz⟨rfl,hbz⟩;have Dz:=aa (W0:=w) hbz (by first|assumption|exact Below.drew ‹_›|exact LB.drew ‹_›);have Pz:=LB.keep (n:=w.heap.size) hbz (by first|assumption|exact Below.drew ‹_›|exact LB.drew ‹_›);clear hbz;try go_wp2_with fail
   clear hHeld;refine hK.out _ _ (LB.cells (n:=w.heap.size) (by first|assumption|exact Below.drew ‹_›|exact LB.drew ‹_›)) (λhHeld=>?_);clear hK K;try simp only[ly]
   refine rd 3 (λK hK=>?_);go_simp;refine(TL.out _).mono ?_;rintro e wz⟨rfl,hbz⟩;have Dz:=aa (W0:=w) hbz (by first|assumption|exact Below.drew ‹_›|exact LB.drew ‹_›);have Pz:=LB.keep (n:=w.heap.size) hbz (by first|assumption|exact Below.drew ‹_›|exact LB.drew ‹_›);clear hbz;try go_wp2_with fail
   clear hHeld;refine hK.out _ _ (LB.cells (n:=w.heap.size) (by first|assumption|exact Below.drew ‹_›|exact LB.drew ‹_›)) (λhHeld=>?_);clear hK K;try simp only[ly]
   refine tk 4 ?_ (hS:=by first|assumption|exact Below.drew ‹_›|exact LB.drew ‹_›);try simp only[ly]
   refine tk 5 ?_ (hS:=by first|assumption|exact Below.drew ‹_›|exact LB.drew ‹_›);try simp only[ly]
   refine' wpAnyH_take (i:=6) (v:=undef) rfl (by kernel_rfl) (by kernel_rfl) (by kernel_rfl) (λ_ _ _ h=>h) (Or.inr ⟨by rfl,rfl⟩) (by first|assumption|exact Below.drew ‹_›|exact LB.drew ‹_›) ?gr31;try simp only[ly]
   refine' wpAnyH_take (i:=7) (v:=undef) rfl (by kernel_rfl) (by kernel_rfl) (by kernel_rfl) (λ_ _ _ h=>h) (Or.inr ⟨by rfl,rfl⟩) (by first|assumption|exact Below.drew ‹_›|exact LB.drew ‹_›) ?gr32;try simp only[ly]
   refine' wpAnyH_take (i:=8) (v:=undef) rfl (by kernel_rfl) (by kernel_rfl) (by kernel_rfl) (λ_ _ _ h=>h) (Or.inr ⟨by rfl,rfl⟩) (by first|assumption|exact Below.drew ‹_›|exact LB.drew ‹_›) ?gr33;try simp only[ly]
   refine tk 9 ?_ (hS:=by first|assumption|exact Below.drew ‹_›|exact LB.drew ‹_›);try simp only[ly]
   refine wpAnyH_done (by kernel_rfl) ?_ _;go_wp2_with fail;go_ret;exact⟨by rw[HV.out];rfl,by first|assumption|exact Below.drew ‹_›|exact LB.drew ‹_›⟩
end Go.Proofs.YtjmclcmgpaofiaaGreat
namespace Go.Proofs.YtjmclcmgpaofiaaGreat
open Tryz
open Go.RowKit Go.Maps
theorem si(m:Mp)(W:World):Cl 151 #[] W (aP m W (aF 7)) :=
 (gK W).mono λ_ _ ⟨he,hb⟩=>⟨0,zeroP,.nilFunc,7,he,⟨rfl,Or.inl rfl,λh=>by cases h⟩,hb⟩
theorem sj(m:Mp)(ds:List Dv)(ls:List Lk)(n:Nat)(M:Mnd)(i:Nat)(d:Dv)(q:Int)(p:Pk)(c:Int)(w:World)(hM:Hid (MemAt w m ds ls n M))(hx:Hid (ds[i]?=some d))(hp:Hid p.ok)(hi:Hid (aj (i:Int)))(hc:Hid (aj c))(ha:Hid (aj d.addr)) :
  Cl 116 #[.pointer (some ⟨m.B,m.z,none⟩),plA (i:Int) q,pkV p,c] w (aP m w (sendP d M i q p c)):=by
 unfold sendP;by_cases k2:d.kind=2
 ·rw[if_pos k2];exact rJ m ds ls n M i d q p c _ w hM hx k2 (λW h=>qQ m ds ls n M i d p W h hx)
 rw[if_neg k2];by_cases k3:d.kind=3
 ·rw[if_pos k3];by_cases q0:q=0
  ·rw[if_pos q0];exact rK m ds ls n M i d q p c _ w hM hx k3 (by simpa using q0) (λW h=>qR m ds ls n M i d p W h hx hp hi)
  ·rw[if_neg q0];exact rL m ds ls n M i d q p c _ w hM hx k3 (by simpa using q0) (λW h=>qS m ds ls n M i p W h hp hi)
 rw[if_neg k3];by_cases k4:d.kind=4
 ·rw[if_pos k4];by_cases q0:q=0
  ·rw[if_pos q0];exact rN m ds ls n M i d q p c _ w hM hx k4 (by simpa using q0) (λW h=>rr m ds ls n M i d p c W h hx hi hc)
  ·rw[if_neg q0];exact rO m ds ls n M i d q p c _ w hM hx k4 (by simpa using q0) (λW h=>qU m ds ls n M i d p W h hx hp hi)
 rw[if_neg k4];by_cases k5:d.kind=5
 ·rw[if_pos k5];by_cases q0:q=0
  ·rw[if_pos q0];exact rP m ds ls n M i d q p c _ w hM hx k5 (by simpa using q0) (λW h=>ru m ds ls n M i d p c W h hx hp hi)
  ·rw[if_neg q0];exact rQ m ds ls n M i d q p c _ w hM hx k5 (by simpa using q0) (λW h=>qT m ds ls n M i d p W h hx hp hi ha)
 rw[if_neg k5];exact rR m ds ls n M i d q p c _ w hM hx (by omega) (λW _=>si m W)
abbrev arV(t:Int × Int)(p:Pk):Value:=.agg #[t.1,t.2,p.s,p.d,p.sp,p.dp]
def dC(m:Mp)(ds:List Dv)(ls:List Lk)(n:Nat)(w:World)(h:HR)(e:Ending)(w':World):Prop :=
 e=.returned (.tuple #[arV h.tp h.p,h.err]) /\ MemAt w' m ds ls (n+1) h.M /\ HK m w w'
theorem bm{p:Pk}(h:ae p=true):p.ok:=by
 unfold ae adB poB at h;simp only[Bool.and_eq_true,decide_eq_true_eq]at h;exact⟨cN (by omega) (by omega),cN (by omega) (by omega),cN (by omega) (by omega),cN (by omega) (by omega)⟩
theorem Bk.ck{w w':World}{k:Nat}{c:Array Value}{t:TypeId}(h:Bk w k c t)(hc:CK w w'):Bk w' k c t :=
 (hc.block k (λes x e=>by unfold Bk at h;rw[h]at e;cases e) h.lt).trans h
theorem sk{ds:List Dv}{i q:Int}(h:isPl ds i q=true):∃k:Nat,i=(k:Int) /\ ∃d,ds[k]?=some d /\ ds.getD i.toNat default=d:=by
 unfold isPl at h;simp only[Bool.and_eq_true,decide_eq_true_eq]at h;obtain⟨⟨⟨h0,h1⟩,_⟩,_⟩:=h;refine⟨i.toNat,by omega,ds[i.toNat]'(by omega),List.getElem?_eq_getElem (by omega),?_⟩;rw[List.getD_eq_getElem?_getD,List.getElem?_eq_getElem (by omega)];rfl
theorem MemAt.final{w w9 wF:World}{m:Mp}{ds:List Dv}{ls:List Lk}{n n':Nat}{M M':Mnd}(hM:MemAt w m ds ls n M)(h9:MemAt w9 m ds ls n' M')(hk:HK m w wF)(e1:wF.heap[m.f]?=w9.heap[m.f]?)(e2:wF.heap[m.o]?=w9.heap[m.o]?)(e3:wF.heap[m.k]?=w9.heap[m.k]?):MemAt wF m ds ls n' M' :=
 ⟨⟨((hM.ck hk).block _ hM.notMap hM.lt).trans hM.blk.1,hM.blk.2⟩,(hM.devs.ck (hM.ck hk)).mono hk.size,(hM.links.ck (hM.ck hk)).mono hk.size,h9.fl.same e1,h9.ow.same e2,h9.bk.same e3,hM.fo,hM.fk,hM.ok⟩
theorem HK.final{w w8 w9 wF:World}{m:Mp}{k:Nat}(h8:Below w w w8)(h9:HK m w8 w9)(hk:w.heap.size<=k)(hF:∀b,b≠k->wF.heap[b]?=w9.heap[b]?)(os:wF.os=w9.os)(tp:wF.tape=w9.tape)(ou:wF.output=w9.output)(sz:wF.heap.size=w9.heap.size):HK m w wF :=
 ⟨os.trans (h9.os.trans h8.os),tp.trans (h9.tape.trans h8.tape),ou.trans (h9.output.trans h8.output),by rw[sz];exact Nat.le_trans h8.size h9.size,λb hb n1 n2 n3=>(hF b (by omega)).trans ((h9.block b (Nat.lt_of_lt_of_le hb h8.size) n1 n2 n3).trans (h8.block b hb))⟩
theorem eB{m:Mp}{ds:List Dv}{ls:List Lk}{n:Nat}{w w':World}{M:Mnd}{h:HR}{er:Int}(hr:h=aZ er M)(hM:MemAt w m ds ls n M)(hb:Below w w w'):dC m ds ls n w h (.returned (.tuple #[arV (0,0) zeroP,er])) w':=by
 subst hr;exact⟨rfl,(hM.below hb).mono (Nat.le_succ _),HK.of_below hb⟩
theorem iE{m:Mp}{ds:List Dv}{ls:List Lk}{n:Nat}{w w8 w9:World}{M M':Mnd}{h:HR}{tp:Int × Int}{p:Pk}{k:Nat}(hr:h=⟨0,tp,p,M'⟩)(hM:MemAt w m ds ls n M)(h8:Below w w w8)(hk9:HK m w8 w9)(h9:MemAt w9 m ds ls (n+1) M')(hk:w.heap.size<=k)(u0 u1 u2 u3 u4 u5:Value) :
  dC m ds ls n w h (.returned (.tuple #[arV tp p,.int .i64 0])) ((((((w9.setCell ⟨k,0,none⟩ u0).setCell ⟨k,1,none⟩ u1).setCell ⟨k,2,none⟩ u2).setCell ⟨k,3,none⟩ u3).setCell ⟨k,4,none⟩ u4).setCell ⟨k,5,none⟩ u5):=by
 subst hr;have hF:=λb hb=>bK (w:=w9) (k:=k) (b:=b) hb u0 u1 u2 u3 u4 u5;have H:=HK.final (wF:=(((((w9.setCell ⟨k,0,none⟩ u0).setCell ⟨k,1,none⟩ u1).setCell ⟨k,2,none⟩ u2).setCell ⟨k,3,none⟩ u3).setCell ⟨k,4,none⟩ u4).setCell ⟨k,5,none⟩ u5) h8 hk9 hk hF (by simp only[World.setCell]) (by simp only[World.setCell]) (by simp only[World.setCell]) (by simp only[World.setCell,Array.size_modify]);have l1:=hM.fl.lt;have l2:=hM.ow.lt;have l3:=hM.bk.lt;exact⟨rfl,hM.final h9 H (hF _ (by omega)) (hF _ (by omega)) (hF _ (by omega)),H⟩
theorem so(m:Mp)(ds:List Dv)(ls:List Lk)(n:Nat)(M:Mnd)(i q:Int)(p:Pk)(c:Int)(h:HR)(w:World)(hM:Hid (MemAt w m ds ls n M))(hpl:isPl ds i q=false)(HV:Hid (h=aZ 4 M)) :
  Cl 75 #[.pointer (some ⟨m.B,m.z,none⟩),plA i q,pkV p,c] w (dC m ds ls n w h):=by
 have M2:=((hM.out.alloc (.cells #[i,q] 27)).alloc (pkC p)).alloc (.cells #[.int .i64 0,.int .i64 0,.int .i64 0,.int .i64 0,.int .i64 0,.int .i64 0] 59);have D2:=Below.alN (Below.alN (Below.alN (Below.refl w w) (.cells #[i,q] 27)) (pkC p)) (.cells #[.int .i64 0,.int .i64 0,.int .i64 0,.int .i64 0,.int .i64 0,.int .i64 0] 59);have A2:=((ah w #[i,q] 27).alloc (pkC p)).alloc (.cells #[.int .i64 0,.int .i64 0,.int .i64 0,.int .i64 0,.int .i64 0,.int .i64 0] 59);have P2:=(ax (w.alloc (.cells #[i,q] 27)) #[p.s,p.d,p.sp,p.dp] 37 (w.heap.size+1) (by simp)).alloc (.cells #[.int .i64 0,.int .i64 0,.int .i64 0,.int .i64 0,.int .i64 0,.int .i64 0] 59);have R2:=ax ((w.alloc (.cells #[i,q] 27)).alloc (pkC p)) #[.int .i64 0,.int .i64 0,.int .i64 0,.int .i64 0,.int .i64 0,.int .i64 0] 59 (w.heap.size+1+1) (by simp);obtain⟨q0,q1,_,_,_⟩:=M2.cells;have Q0:(((w.alloc (.cells #[i,q] 27)).alloc (pkC p)).alloc (.cells #[.int .i64 0,.int .i64 0,.int .i64 0,.int .i64 0,.int .i64 0,.int .i64 0] 59)).drew.cell? ⟨m.B,m.z,none⟩=some (.slice m.A ds.length m.cap):=q0;have Q1:(((w.alloc (.cells #[i,q] 27)).alloc (pkC p)).alloc (.cells #[.int .i64 0,.int .i64 0,.int .i64 0,.int .i64 0,.int .i64 0,.int .i64 0] 59)).drew.cell? ⟨m.B,m.z+1,none⟩=some (.slice m.L ls.length m.e9):=q1;obtain⟨a0,a1⟩:=A2.two;have HP:Hid (∀W,MemAt W m ds ls n M->CB 95 #[.agg #[.slice m.A ds.length m.cap,.slice m.L ls.length m.e9],plA i q] W (.bool (isPl ds i q))):=λW h=>hasPlace_any _ _ _ _ _ _ _ W h.devs;rw[hpl]at HP;obtain⟨s,dd,sp,dp⟩:=p;simp only at *;go_enter func75,ntmps75;go_wp2_with fail;go_region_held3 (λw'=>w'.cell? ⟨m.B,m.z,none⟩=some (.slice m.A ds.length m.cap) /\ w'.cell? ⟨m.B,m.z+1,none⟩=some (.slice m.L ls.length m.e9) /\ w'.cell? ⟨w,0,none⟩=some (.int .i64 i) /\ w'.cell? ⟨w,1,none⟩=some (.int .i64 q)) (go_keep) ((go_at_call 95;refine(HP.out _ M2.drew).mono ?_;rintro e w5⟨rfl,hb5⟩;have D5:=aa hb5 D2.drew;have A5:=A2.drew.keep hb5;have P5:=P2.drew.keep hb5;have R5:=R2.drew.keep hb5;have M5:=M2.drew.below hb5;have g0:=(CK.of_below hb5).cell Q0;have g1:=(CK.of_below hb5).cell Q1;obtain⟨g2,g3⟩:=A5.two))
 clear hb5 D2 A2 P2 R2 M2 q0 q1 Q0 Q1 a0 a1 HP g0 g1 g2 g3;obtain⟨⟨l0,l1,l2,l3,l4,l5⟩,⟨f0,f1,f2,f3,f4,f5⟩⟩:=R5.six;have z5:w.heap.size+1+1<w5.heap.size:=R5.lt;go_wp2_with fail;refine bodyPost_ret (v:=.tuple #[arV (0,0) zeroP,.int .i64 4]) (by simp[results,results75,go_sem,l0,l1,l2,l3,l4,l5,zeroP]) rfl (eB HV.out hM.out (by go_grown))
theorem sq(m:Mp)(ds:List Dv)(ls:List Lk)(n:Nat)(M:Mnd)(i q:Int)(p:Pk)(c:Int)(h:HR)(w:World)(hM:Hid (MemAt w m ds ls n M))(hpl:isPl ds i q=true)(hpk:ae p=false)(HV:Hid (h=aZ 1 M)) :
  Cl 75 #[.pointer (some ⟨m.B,m.z,none⟩),plA i q,pkV p,c] w (dC m ds ls n w h):=by
 have M2:=((hM.out.alloc (.cells #[i,q] 27)).alloc (pkC p)).alloc (.cells #[.int .i64 0,.int .i64 0,.int .i64 0,.int .i64 0,.int .i64 0,.int .i64 0] 59);have D2:=Below.alN (Below.alN (Below.alN (Below.refl w w) (.cells #[i,q] 27)) (pkC p)) (.cells #[.int .i64 0,.int .i64 0,.int .i64 0,.int .i64 0,.int .i64 0,.int .i64 0] 59);have A2:=((ah w #[i,q] 27).alloc (pkC p)).alloc (.cells #[.int .i64 0,.int .i64 0,.int .i64 0,.int .i64 0,.int .i64 0,.int .i64 0] 59);have P2:=(ax (w.alloc (.cells #[i,q] 27)) #[p.s,p.d,p.sp,p.dp] 37 (w.heap.size+1) (by simp)).alloc (.cells #[.int .i64 0,.int .i64 0,.int .i64 0,.int .i64 0,.int .i64 0,.int .i64 0] 59);have R2:=ax ((w.alloc (.cells #[i,q] 27)).alloc (pkC p)) #[.int .i64 0,.int .i64 0,.int .i64 0,.int .i64 0,.int .i64 0,.int .i64 0] 59 (w.heap.size+1+1) (by simp);obtain⟨q0,q1,_,_,_⟩:=M2.cells;have Q0:(((w.alloc (.cells #[i,q] 27)).alloc (pkC p)).alloc (.cells #[.int .i64 0,.int .i64 0,.int .i64 0,.int .i64 0,.int .i64 0,.int .i64 0] 59)).drew.cell? ⟨m.B,m.z,none⟩=some (.slice m.A ds.length m.cap):=q0;have Q1:(((w.alloc (.cells #[i,q] 27)).alloc (pkC p)).alloc (.cells #[.int .i64 0,.int .i64 0,.int .i64 0,.int .i64 0,.int .i64 0,.int .i64 0] 59)).drew.cell? ⟨m.B,m.z+1,none⟩=some (.slice m.L ls.length m.e9):=q1;obtain⟨a0,a1⟩:=A2.two;have HP:Hid (∀W,MemAt W m ds ls n M->CB 95 #[.agg #[.slice m.A ds.length m.cap,.slice m.L ls.length m.e9],plA i q] W (.bool (isPl ds i q))):=λW h=>hasPlace_any _ _ _ _ _ _ _ W h.devs;have PC:Hid (∀W,CB 73 #[pkV p] W (.int .i64 (if ae p then 0 else 1))):=λW=>eU p W;rw[hpl]at HP;rw[hpk]at PC;simp only[Bool.false_eq_true,if_false]at PC;obtain⟨s,dd,sp,dp⟩:=p;simp only at *;go_enter func75,ntmps75;go_wp2_with fail;go_region_held3 (λw'=>w'.cell? ⟨m.B,m.z,none⟩=some (.slice m.A ds.length m.cap) /\ w'.cell? ⟨m.B,m.z+1,none⟩=some (.slice m.L ls.length m.e9) /\ w'.cell? ⟨w,0,none⟩=some (.int .i64 i) /\ w'.cell? ⟨w,1,none⟩=some (.int .i64 q)) (go_keep) ((go_at_call 95;refine(HP.out _ M2.drew).mono ?_;rintro e w5⟨rfl,hb5⟩;have D5:=aa hb5 D2.drew;have A5:=A2.drew.keep hb5;have P5:=P2.drew.keep hb5;have R5:=R2.drew.keep hb5;have M5:=M2.drew.below hb5;have g0:=(CK.of_below hb5).cell Q0;have g1:=(CK.of_below hb5).cell Q1;obtain⟨g2,g3⟩:=A5.two))
 clear hb5 D2 A2 P2 R2 M2 q0 q1 Q0 Q1 a0 a1 HP g0 g1 g2 g3;obtain⟨⟨l0,l1,l2,l3,l4,l5⟩,⟨f0,f1,f2,f3,f4,f5⟩⟩:=R5.six;have z5:w.heap.size+1+1<w5.heap.size:=R5.lt;obtain⟨p0,p1,p2,p3,_⟩:=P5.four;go_wp2_with fail;refine(PC.out _).mono ?_;rintro e w6⟨rfl,hb6⟩;have D6:=aa hb6 D5;have A6:=A5.keep hb6;have P6:=P5.keep hb6;have R6:=R5.keep hb6;have M6:=M5.below hb6;clear hb6 D5 A5 P5 R5 M5 p0 p1 p2 p3 l0 l1 l2 l3 l4 l5 f0 f1 f2 f3 f4 f5 PC z5;obtain⟨⟨l0,l1,l2,l3,l4,l5⟩,⟨f0,f1,f2,f3,f4,f5⟩⟩:=R6.six;go_wp2_with fail;refine bodyPost_ret (v:=.tuple #[arV (0,0) zeroP,.int .i64 1]) (by simp[results,results75,go_sem,l0,l1,l2,l3,l4,l5,zeroP]) rfl (eB HV.out hM.out (by go_grown))
theorem sr(m:Mp)(ds:List Dv)(ls:List Lk)(n:Nat)(M:Mnd)(i q:Int)(p:Pk)(c:Int)(h:HR)(r:SR)(w:World)(hM:Hid (MemAt w m ds ls n M))(hpl:isPl ds i q=true)(hpk:ae p=true)(hne:(r.err == 0)=false)(HV:Hid (h=aZ r.err M))
  (SD:Hid (∀W,MemAt W m ds ls n M->Cl 116 #[.pointer (some ⟨m.B,m.z,none⟩),plA i q,pkV p,c] W (aP m W r))) :
  Cl 75 #[.pointer (some ⟨m.B,m.z,none⟩),plA i q,pkV p,c] w (dC m ds ls n w h):=by
 have M2:=((hM.out.alloc (.cells #[i,q] 27)).alloc (pkC p)).alloc (.cells #[.int .i64 0,.int .i64 0,.int .i64 0,.int .i64 0,.int .i64 0,.int .i64 0] 59);have D2:=Below.alN (Below.alN (Below.alN (Below.refl w w) (.cells #[i,q] 27)) (pkC p)) (.cells #[.int .i64 0,.int .i64 0,.int .i64 0,.int .i64 0,.int .i64 0,.int .i64 0] 59);have A2:=((ah w #[i,q] 27).alloc (pkC p)).alloc (.cells #[.int .i64 0,.int .i64 0,.int .i64 0,.int .i64 0,.int .i64 0,.int .i64 0] 59);have P2:=(ax (w.alloc (.cells #[i,q] 27)) #[p.s,p.d,p.sp,p.dp] 37 (w.heap.size+1) (by simp)).alloc (.cells #[.int .i64 0,.int .i64 0,.int .i64 0,.int .i64 0,.int .i64 0,.int .i64 0] 59);have R2:=ax ((w.alloc (.cells #[i,q] 27)).alloc (pkC p)) #[.int .i64 0,.int .i64 0,.int .i64 0,.int .i64 0,.int .i64 0,.int .i64 0] 59 (w.heap.size+1+1) (by simp);obtain⟨q0,q1,_,_,_⟩:=M2.cells;have Q0:(((w.alloc (.cells #[i,q] 27)).alloc (pkC p)).alloc (.cells #[.int .i64 0,.int .i64 0,.int .i64 0,.int .i64 0,.int .i64 0,.int .i64 0] 59)).drew.cell? ⟨m.B,m.z,none⟩=some (.slice m.A ds.length m.cap):=q0;have Q1:(((w.alloc (.cells #[i,q] 27)).alloc (pkC p)).alloc (.cells #[.int .i64 0,.int .i64 0,.int .i64 0,.int .i64 0,.int .i64 0,.int .i64 0] 59)).drew.cell? ⟨m.B,m.z+1,none⟩=some (.slice m.L ls.length m.e9):=q1;obtain⟨a0,a1⟩:=A2.two;have HP:Hid (∀W,MemAt W m ds ls n M->CB 95 #[.agg #[.slice m.A ds.length m.cap,.slice m.L ls.length m.e9],plA i q] W (.bool (isPl ds i q))):=λW h=>hasPlace_any _ _ _ _ _ _ _ W h.devs;have PC:Hid (∀W,CB 73 #[pkV p] W (.int .i64 (if ae p then 0 else 1))):=λW=>eU p W;rw[hpl]at HP;rw[hpk]at PC;simp only[if_true]at PC;obtain⟨s,dd,sp,dp⟩:=p;simp only at *;go_enter func75,ntmps75;go_wp2_with fail;go_region_held3 (λw'=>w'.cell? ⟨m.B,m.z,none⟩=some (.slice m.A ds.length m.cap) /\ w'.cell? ⟨m.B,m.z+1,none⟩=some (.slice m.L ls.length m.e9) /\ w'.cell? ⟨w,0,none⟩=some (.int .i64 i) /\ w'.cell? ⟨w,1,none⟩=some (.int .i64 q)) (go_keep) ((go_at_call 95;refine(HP.out _ M2.drew).mono ?_;rintro e w5⟨rfl,hb5⟩;have D5:=aa hb5 D2.drew;have A5:=A2.drew.keep hb5;have P5:=P2.drew.keep hb5;have R5:=R2.drew.keep hb5;have M5:=M2.drew.below hb5;have g0:=(CK.of_below hb5).cell Q0;have g1:=(CK.of_below hb5).cell Q1;obtain⟨g2,g3⟩:=A5.two))
 clear hb5 D2 A2 P2 R2 M2 q0 q1 Q0 Q1 a0 a1 HP g0 g1 g2 g3;obtain⟨⟨l0,l1,l2,l3,l4,l5⟩,⟨f0,f1,f2,f3,f4,f5⟩⟩:=R5.six;have z5:w.heap.size+1+1<w5.heap.size:=R5.lt;obtain⟨p0,p1,p2,p3,_⟩:=P5.four;go_wp2_with fail;refine(PC.out _).mono ?_;rintro e w6⟨rfl,hb6⟩;have D6:=aa hb6 D5;have A6:=A5.keep hb6;have P6:=P5.keep hb6;have R6:=R5.keep hb6;have M6:=M5.below hb6;clear hb6 D5 A5 P5 R5 M5 p0 p1 p2 p3 l0 l1 l2 l3 l4 l5 f0 f1 f2 f3 f4 f5 PC z5;obtain⟨⟨l0,l1,l2,l3,l4,l5⟩,⟨f0,f1,f2,f3,f4,f5⟩⟩:=R6.six;obtain⟨p0,p1,p2,p3,_⟩:=P6.four;obtain⟨a0,a1⟩:=A6.two;go_wp2_with fail;refine(SD.out _ M6).mono ?_;rintro e w7⟨q2,p9,fv,er,rfl,HQ,hb7⟩;obtain⟨he,hfv,_⟩:=HQ.out;subst he;have D7:=aa hb7 D6;have R7:=R6.keep hb7;clear hb7 D6 A6 P6 R6 M6 p0 p1 p2 p3 a0 a1 l0 l1 l2 l3 l4 l5 f0 f1 f2 f3 f4 f5 SD HQ;obtain⟨ps,pd,psp,pdp⟩:=p9;have z7:w.heap.size+1+1<w7.heap.size:=R7.lt;generalize r.err=er at *;rcases hfv with rfl|⟨fn,cp,rfl⟩
 ·have D8:=Below.alN D7 (.cells #[q2,ps,pd,psp,pdp,.nilFunc] 214);have R8:=R7.alloc (.cells #[q2,ps,pd,psp,pdp,.nilFunc] 214);obtain⟨⟨l0,l1,l2,l3,l4,l5⟩,⟨f0,f1,f2,f3,f4,f5⟩⟩:=R8.six;go_upto_region 8 with fail;generalize hW:w7.alloc (.cells #[q2,ps,pd,psp,pdp,.nilFunc] 214)=w8 at *;go_wp2_with fail;refine bodyPost_ret (v:=.tuple #[arV (0,0) zeroP,er]) (by simp[results,results75,go_sem,l0,l1,l2,l3,l4,l5,zeroP]) rfl (eB HV.out hM.out (by go_grown))
 ·have D8:=Below.alN D7 (.cells #[q2,ps,pd,psp,pdp,.func fn #[] cp] 214);have R8:=R7.alloc (.cells #[q2,ps,pd,psp,pdp,.func fn #[] cp] 214);obtain⟨⟨l0,l1,l2,l3,l4,l5⟩,⟨f0,f1,f2,f3,f4,f5⟩⟩:=R8.six;go_upto_region 8 with fail;generalize hW:w7.alloc (.cells #[q2,ps,pd,psp,pdp,.func fn #[] cp] 214)=w8 at *;go_wp2_with fail;refine bodyPost_ret (v:=.tuple #[arV (0,0) zeroP,er]) (by simp[results,results75,go_sem,l0,l1,l2,l3,l4,l5,zeroP]) rfl (eB HV.out hM.out (by go_grown))
theorem peS{w':World}{m:Mp}{ds:List Dv}{ls:List Lk}{n N O:Nat}{M:Mnd}{i q q2:Int}{a b c d e:Value}(hM:MemAt w' m ds ls n M)(hA:Bk w' N #[i,q] 27)(hO:Bk w' O #[q2,a,b,c,d,e] 214) :
  w'.cell? ⟨m.B,m.z,none⟩=some (.slice m.A ds.length m.cap) /\ w'.cell? ⟨m.B,m.z+1,none⟩=some (.slice m.L ls.length m.e9) /\ w'.cell? ⟨N,0,none⟩=some (.int .i64 i) /\ w'.cell? ⟨O,0,none⟩=some (.int .i64 q2):=⟨hM.cells.1,hM.cells.2.1,hA.at 0,hO.at 0⟩
theorem ss(m:Mp)(ds:List Dv)(ls:List Lk)(n:Nat)(M:Mnd)(i q:Int)(p:Pk)(c:Int)(h:HR)(q2 ps pd psp pdp:Int)(pv:Option (Int × Int))(w:World)(hM:Hid (MemAt w m ds ls n M))(_hn:n<maxLen)(hpl:isPl ds i q=true)(hpk:ae p=true)
  (SD:Hid (∀W,MemAt W m ds ls n M->Cl 116 #[.pointer (some ⟨m.B,m.z,none⟩),plA i q,pkV p,c] W (aP m W ⟨0,q2,⟨ps,pd,psp,pdp⟩,.no⟩)))
  (PE:Hid (∀W,MemAt W m ds ls n M->CB 59 #[.agg #[.slice m.A ds.length m.cap,.slice m.L ls.length m.e9],plA i q2] W (.tuple #[bS pv,.bool pv.isSome])))
  (HN:Hid (pv=none->h=aZ 7 M)) (HS:Hid (∀t,pv=some t->h=⟨0,t,⟨ps,pd,psp,pdp⟩,learnP M (.no)⟩)) :
  Cl 75 #[.pointer (some ⟨m.B,m.z,none⟩),plA i q,pkV p,c] w (dC m ds ls n w h):=by
 have M2:=((hM.out.alloc (.cells #[i,q] 27)).alloc (pkC p)).alloc (.cells #[.int .i64 0,.int .i64 0,.int .i64 0,.int .i64 0,.int .i64 0,.int .i64 0] 59);have D2:=Below.alN (Below.alN (Below.alN (Below.refl w w) (.cells #[i,q] 27)) (pkC p)) (.cells #[.int .i64 0,.int .i64 0,.int .i64 0,.int .i64 0,.int .i64 0,.int .i64 0] 59);have A2:=((ah w #[i,q] 27).alloc (pkC p)).alloc (.cells #[.int .i64 0,.int .i64 0,.int .i64 0,.int .i64 0,.int .i64 0,.int .i64 0] 59);have P2:=(ax (w.alloc (.cells #[i,q] 27)) #[p.s,p.d,p.sp,p.dp] 37 (w.heap.size+1) (by simp)).alloc (.cells #[.int .i64 0,.int .i64 0,.int .i64 0,.int .i64 0,.int .i64 0,.int .i64 0] 59);have R2:=ax ((w.alloc (.cells #[i,q] 27)).alloc (pkC p)) #[.int .i64 0,.int .i64 0,.int .i64 0,.int .i64 0,.int .i64 0,.int .i64 0] 59 (w.heap.size+1+1) (by simp);obtain⟨q0,q1,_,_,_⟩:=M2.cells;have Q0:(((w.alloc (.cells #[i,q] 27)).alloc (pkC p)).alloc (.cells #[.int .i64 0,.int .i64 0,.int .i64 0,.int .i64 0,.int .i64 0,.int .i64 0] 59)).drew.cell? ⟨m.B,m.z,none⟩=some (.slice m.A ds.length m.cap):=q0;have Q1:(((w.alloc (.cells #[i,q] 27)).alloc (pkC p)).alloc (.cells #[.int .i64 0,.int .i64 0,.int .i64 0,.int .i64 0,.int .i64 0,.int .i64 0] 59)).drew.cell? ⟨m.B,m.z+1,none⟩=some (.slice m.L ls.length m.e9):=q1;obtain⟨a0,a1⟩:=A2.two;have HP:Hid (∀W,MemAt W m ds ls n M->CB 95 #[.agg #[.slice m.A ds.length m.cap,.slice m.L ls.length m.e9],plA i q] W (.bool (isPl ds i q))):=λW h=>hasPlace_any _ _ _ _ _ _ _ W h.devs;have PC:Hid (∀W,CB 73 #[pkV p] W (.int .i64 (if ae p then 0 else 1))):=λW=>eU p W;rw[hpl]at HP;rw[hpk]at PC;simp only[if_true]at PC;obtain⟨tx,ty,ok,hpv,hok,HT,HF⟩:∃(tx ty:Int) (ok:Bool),bS pv=plA tx ty /\ pv.isSome=ok /\ Hid (ok=true->h=⟨0,(tx,ty),⟨ps,pd,psp,pdp⟩,learnP M (.no)⟩) /\ Hid (ok=false->h=aZ 7 M):=by
  cases pv with
  | none=>exact⟨0,0,_,rfl,rfl,(λe=>by cases e),λ_=>HN.out rfl⟩
  | some z=>exact⟨z.1,z.2,_,rfl,rfl,λ_=>HS.out z rfl,(λe=>by cases e)⟩
 rw[hpv,hok]at PE;clear hpv hok HN HS;obtain⟨s,dd,sp,dp⟩:=p;simp only at *;go_enter func75,ntmps75;go_wp2_with fail;go_region_held3 (λw'=>w'.cell? ⟨m.B,m.z,none⟩=some (.slice m.A ds.length m.cap) /\ w'.cell? ⟨m.B,m.z+1,none⟩=some (.slice m.L ls.length m.e9) /\ w'.cell? ⟨w,0,none⟩=some (.int .i64 i) /\ w'.cell? ⟨w,1,none⟩=some (.int .i64 q)) (go_keep) ((go_at_call 95;refine(HP.out _ M2.drew).mono ?_;rintro e w5⟨rfl,hb5⟩;have D5:=aa hb5 D2.drew;have A5:=A2.drew.keep hb5;have P5:=P2.drew.keep hb5;have R5:=R2.drew.keep hb5;have M5:=M2.drew.below hb5;have g0:=(CK.of_below hb5).cell Q0;have g1:=(CK.of_below hb5).cell Q1;obtain⟨g2,g3⟩:=A5.two))
 clear hb5 D2 A2 P2 R2 M2 q0 q1 Q0 Q1 a0 a1 HP g0 g1 g2 g3;obtain⟨⟨l0,l1,l2,l3,l4,l5⟩,⟨f0,f1,f2,f3,f4,f5⟩⟩:=R5.six;have z5:w.heap.size+1+1<w5.heap.size:=R5.lt;obtain⟨p0,p1,p2,p3,_⟩:=P5.four;go_wp2_with fail;refine(PC.out _).mono ?_;rintro e w6⟨rfl,hb6⟩;have D6:=aa hb6 D5;have A6:=A5.keep hb6;have P6:=P5.keep hb6;have R6:=R5.keep hb6;have M6:=M5.below hb6;clear hb6 D5 A5 P5 R5 M5 p0 p1 p2 p3 l0 l1 l2 l3 l4 l5 f0 f1 f2 f3 f4 f5 PC z5;obtain⟨⟨l0,l1,l2,l3,l4,l5⟩,⟨f0,f1,f2,f3,f4,f5⟩⟩:=R6.six;obtain⟨p0,p1,p2,p3',_⟩:=P6.four;obtain⟨a0,a1⟩:=A6.two;go_wp2_with fail;refine(SD.out _ M6).mono ?_;rintro e w7⟨q9,p9,fv,er,rfl,HQ,hb7⟩;obtain⟨he,_,hz⟩:=HQ.out;obtain⟨hq9,hp9,HL⟩:=hz rfl;simp only at he hq9 hp9 HL;have hq9':=hq9.symm;subst he hq9' hp9;have D7:=aa hb7 D6;have R7:=R6.keep hb7;have A7:=A6.keep hb7;have M7:=M6.below hb7;clear hb7 D6 A6 P6 R6 M6 p0 p1 p2 p3' a0 a1 l0 l1 l2 l3 l4 l5 f0 f1 f2 f3 f4 f5 SD HQ hz;have hfv:fv=.func (.func 208) #[] #[]:=HL;subst hfv;have z7:w.heap.size+1+1<w7.heap.size:=R7.lt;have D8:=Below.alN D7 (.cells #[q2,ps,pd,psp,pdp,.func (.func 208) #[] #[]] 214);have R8:=R7.alloc (.cells #[q2,ps,pd,psp,pdp,.func (.func 208) #[] #[]] 214);have A8:=A7.alloc (.cells #[q2,ps,pd,psp,pdp,.func (.func 208) #[] #[]] 214);have M8:=M7.alloc (.cells #[q2,ps,pd,psp,pdp,.func (.func 208) #[] #[]] 214);have HL8:=HL.below ((Below.refl _ w7).alloc (Nat.le_refl _) (.cells #[q2,ps,pd,psp,pdp,.func (.func 208) #[] #[]] 214));have O8:=ah w7 #[q2,ps,pd,psp,pdp,.func (.func 208) #[] #[]] 214;clear D7 R7 A7 M7 HL;go_upto_region 9 with fail;generalize hON:w7.heap.size=on at *;generalize hW:w7.alloc (.cells #[q2,ps,pd,psp,pdp,.func (.func 208) #[] #[]] 214)=w8 at *;clear hON hW;obtain⟨g0,g1,g2,g3⟩:=peS M8 A8 O8;have D8a:=(Below.alN D8 (.cells #[.int .i64 0,.int .i64 0] 27)).drew;have M8a:=(M8.alloc (.cells #[.int .i64 0,.int .i64 0] 27)).drew;have A8a:=(A8.alloc (.cells #[.int .i64 0,.int .i64 0] 27)).drew;have O8a:=(O8.alloc (.cells #[.int .i64 0,.int .i64 0] 27)).drew;have R8a:=(R8.alloc (.cells #[.int .i64 0,.int .i64 0] 27)).drew;have H8a:=HL8.below ((Below.refl _ w8).alloc (Nat.le_refl _) (.cells #[.int .i64 0,.int .i64 0] 27)).drew;have H8d:=HL8.below (Below.refl _ w8).drew;have M8d:=M8.drew;have A8d:=A8.drew;have O8d:=O8.drew;go_cut [13,14] (λv13 v14 wx=>∃g,v13=.pointer (some ⟨g,0,none⟩) /\ v14=.bool ok /\ Bk wx g #[tx,ty] 27 /\ w.heap.size+1+1<g /\ Bk wx on #[q2,ps,pd,psp,pdp,.func (.func 208) #[] #[]] 214 /\ Bk wx (w.heap.size+1+1) #[.int .i64 0,.int .i64 0,.int .i64 0,.int .i64 0,.int .i64 0,.int .i64 0] 59 /\ MemAt wx m ds ls n M /\ LrnAt w6.heap.size wx m (.func (.func 208) #[] #[]) (.no) /\ Below w w wx)
 case first =>
  have zz8:w.heap.size+1+1<w8.heap.size:=R8.lt;go_region_held3 (λw'=>w'.cell? ⟨m.B,m.z,none⟩=some (.slice m.A ds.length m.cap) /\ w'.cell? ⟨m.B,m.z+1,none⟩=some (.slice m.L ls.length m.e9) /\ w'.cell? ⟨w,0,none⟩=some (.int .i64 i) /\ w'.cell? ⟨on,0,none⟩=some (.int .i64 q2)) (first|exact peS (by first|assumption|exact MemAt.alloc ‹_› _) (by first|assumption|exact Bk.alloc ‹_› _) (by first|assumption|exact Bk.alloc ‹_› _)|exact peS (M8.below ((E9.setCell (p:=⟨w8,0,none⟩) (Nat.le_refl _) _).setCell (p:=⟨w8,1,none⟩) (Nat.le_refl _) _)) (A8.keep ((E9.setCell (p:=⟨w8,0,none⟩) (Nat.le_refl _) _).setCell (p:=⟨w8,1,none⟩) (Nat.le_refl _) _)) (O8.keep ((E9.setCell (p:=⟨w8,0,none⟩) (Nat.le_refl _) _).setCell (p:=⟨w8,1,none⟩) (Nat.le_refl _) _))) (first|(go_at_call 59;refine(PE.out _ M8d).mono ?_;rintro e w9⟨rfl,hb9⟩;have D9:=aa hb9 D8.drew;have M9:=M8d.below hb9;have A9:=A8d.keep hb9;have O9:=O8d.keep hb9;have R9:=R8.drew.keep hb9;have H9:=H8d.below hb9;have G9:=ah w9 #[tx,ty] 27)|(go_at_call 59;refine(PE.out _ M8a).mono ?_;rintro e w9⟨rfl,hb9⟩;have D9:=aa hb9 D8a;have M9:=M8a.below hb9;have A9:=A8a.keep hb9;have O9:=O8a.keep hb9;have R9:=R8a.keep hb9;have H9:=H8a.below hb9;have G9:=(ah w8 #[.int .i64 0,.int .i64 0] 27).drew.keep hb9;have E9:=aa hb9 ((Below.refl _ w8).alloc (Nat.le_refl _) (.cells #[.int .i64 0,.int .i64 0] 27)).drew;have gf0:=G9.fz 0;have gf1:=G9.fz 1;obtain⟨gg0,gg1⟩:=G9.two))
  all_goals
   go_wp2_with fail
   go_meet
   first
    | exact⟨_,rfl,rfl,G9,(by have:=R9.lt;omega),O9.alloc _,R9.alloc _,M9.alloc _,H9.below ((Below.refl _ _).alloc (Nat.le_refl _) _),Below.alN D9 _⟩
    | exact⟨_,rfl,rfl,(by have:=(G9.setS (j:=0) (.int .i64 tx)).setS (j:=1) (.int .i64 ty);simpa using this),zz8,O8.keep ((E9.setCell (p:=⟨w8,0,none⟩) (Nat.le_refl _) _).setCell (p:=⟨w8,1,none⟩) (Nat.le_refl _) _),R8.keep ((E9.setCell (p:=⟨w8,0,none⟩) (Nat.le_refl _) _).setCell (p:=⟨w8,1,none⟩) (Nat.le_refl _) _),M8.below ((E9.setCell (p:=⟨w8,0,none⟩) (Nat.le_refl _) _).setCell (p:=⟨w8,1,none⟩) (Nat.le_refl _) _),HL8.below ((E9.setCell (p:=⟨w8,0,none⟩) (Nat.le_refl _) _).setCell (p:=⟨w8,1,none⟩) (Nat.le_refl _) _),aa ((E9.setCell (p:=⟨w8,0,none⟩) (Nat.le_refl _) _).setCell (p:=⟨w8,1,none⟩) (Nat.le_refl _) _) D8⟩
 case rest =>
  clear D8 R8 A8 M8 HL8 O8 g0 g1 g2 g3 D8a M8a A8a O8a R8a H8a H8d M8d A8d O8d PE;obtain⟨g,rfl,rfl,G8,zg,O8,R8,M8,HL8,D8⟩:=hcut;obtain⟨⟨l0,l1,l2,l3,l4,l5⟩,⟨f0,f1,f2,f3,f4,f5⟩⟩:=R8.six;cases ok
  ·have HV:Hid (h=aZ 7 M):=HF.out rfl;go_wp2_with fail;refine bodyPost_ret (v:=.tuple #[arV (0,0) zeroP,.int .i64 7]) (by simp[results,results75,go_sem,l0,l1,l2,l3,l4,l5,zeroP]) rfl (eB HV.out hM.out (by go_grown))
  have HV:=HT.out rfl;obtain⟨⟨o0,o1,o2,o3,o4,o5⟩,_⟩:=O8.six;clear l0 l1 l2 l3 l4 l5 f0 f1 f2 f3 f4 f5;go_wp2_with fail;refine(rD _).mono ?_;rintro e w9⟨rfl,rfl⟩;have M9:MemAt w9 m ds ls (n+1) (learnP M .no):=M8.mono (Nat.le_succ _);have K9:HK m w9 w9:=HK.refl m w9;have G9:=G8;have O9:=O8;have R9:=R8;clear o0 o1 o2 o3 o4 o5;obtain⟨⟨o0,o1,o2,o3,o4,o5⟩,_⟩:=O9.six;obtain⟨⟨l0,l1,l2,l3,l4,l5⟩,⟨f0,f1,f2,f3,f4,f5⟩⟩:=R9.six;obtain⟨gx,gy⟩:=G9.two;go_wp2_with fail;refine bodyPost_ret (v:=.tuple #[arV (tx,ty) ⟨ps,pd,psp,pdp⟩,.int .i64 0]) (by simp[results,results75,go_sem,l0,l1,l2,l3,l4,l5]) rfl (iE HV hM.out D8 K9 M9 (by omega) _ _ _ _ _ _)
theorem sv(m:Mp)(ds:List Dv)(ls:List Lk)(n:Nat)(M:Mnd)(i q:Int)(p:Pk)(c:Int)(j:Int)(p3:Pk)(h:HR)(q2 ps pd psp pdp:Int)(pv:Option (Int × Int))(w:World)(hM:Hid (MemAt w m ds ls n M))(hn:n<maxLen)(hpl:isPl ds i q=true)(hpk:ae p=true)
  (SD:Hid (∀W,MemAt W m ds ls n M->Cl 116 #[.pointer (some ⟨m.B,m.z,none⟩),plA i q,pkV p,c] W (aP m W ⟨0,q2,⟨ps,pd,psp,pdp⟩,.flow j p3⟩)))
  (PE:Hid (∀W,MemAt W m ds ls n M->CB 59 #[.agg #[.slice m.A ds.length m.cap,.slice m.L ls.length m.e9],plA i q2] W (.tuple #[bS pv,.bool pv.isSome])))
  (HN:Hid (pv=none->h=aZ 7 M)) (HS:Hid (∀t,pv=some t->h=⟨0,t,⟨ps,pd,psp,pdp⟩,learnP M (.flow j p3)⟩)) :
  Cl 75 #[.pointer (some ⟨m.B,m.z,none⟩),plA i q,pkV p,c] w (dC m ds ls n w h):=by
 have M2:=((hM.out.alloc (.cells #[i,q] 27)).alloc (pkC p)).alloc (.cells #[.int .i64 0,.int .i64 0,.int .i64 0,.int .i64 0,.int .i64 0,.int .i64 0] 59);have D2:=Below.alN (Below.alN (Below.alN (Below.refl w w) (.cells #[i,q] 27)) (pkC p)) (.cells #[.int .i64 0,.int .i64 0,.int .i64 0,.int .i64 0,.int .i64 0,.int .i64 0] 59);have A2:=((ah w #[i,q] 27).alloc (pkC p)).alloc (.cells #[.int .i64 0,.int .i64 0,.int .i64 0,.int .i64 0,.int .i64 0,.int .i64 0] 59);have P2:=(ax (w.alloc (.cells #[i,q] 27)) #[p.s,p.d,p.sp,p.dp] 37 (w.heap.size+1) (by simp)).alloc (.cells #[.int .i64 0,.int .i64 0,.int .i64 0,.int .i64 0,.int .i64 0,.int .i64 0] 59);have R2:=ax ((w.alloc (.cells #[i,q] 27)).alloc (pkC p)) #[.int .i64 0,.int .i64 0,.int .i64 0,.int .i64 0,.int .i64 0,.int .i64 0] 59 (w.heap.size+1+1) (by simp);obtain⟨q0,q1,_,_,_⟩:=M2.cells;have Q0:(((w.alloc (.cells #[i,q] 27)).alloc (pkC p)).alloc (.cells #[.int .i64 0,.int .i64 0,.int .i64 0,.int .i64 0,.int .i64 0,.int .i64 0] 59)).drew.cell? ⟨m.B,m.z,none⟩=some (.slice m.A ds.length m.cap):=q0;have Q1:(((w.alloc (.cells #[i,q] 27)).alloc (pkC p)).alloc (.cells #[.int .i64 0,.int .i64 0,.int .i64 0,.int .i64 0,.int .i64 0,.int .i64 0] 59)).drew.cell? ⟨m.B,m.z+1,none⟩=some (.slice m.L ls.length m.e9):=q1;obtain⟨a0,a1⟩:=A2.two;have HP:Hid (∀W,MemAt W m ds ls n M->CB 95 #[.agg #[.slice m.A ds.length m.cap,.slice m.L ls.length m.e9],plA i q] W (.bool (isPl ds i q))):=λW h=>hasPlace_any _ _ _ _ _ _ _ W h.devs;have PC:Hid (∀W,CB 73 #[pkV p] W (.int .i64 (if ae p then 0 else 1))):=λW=>eU p W;rw[hpl]at HP;rw[hpk]at PC;simp only[if_true]at PC;obtain⟨tx,ty,ok,hpv,hok,HT,HF⟩:∃(tx ty:Int) (ok:Bool),bS pv=plA tx ty /\ pv.isSome=ok /\ Hid (ok=true->h=⟨0,(tx,ty),⟨ps,pd,psp,pdp⟩,learnP M (.flow j p3)⟩) /\ Hid (ok=false->h=aZ 7 M):=by
  cases pv with
  | none=>exact⟨0,0,_,rfl,rfl,(λe=>by cases e),λ_=>HN.out rfl⟩
  | some z=>exact⟨z.1,z.2,_,rfl,rfl,λ_=>HS.out z rfl,(λe=>by cases e)⟩
 rw[hpv,hok]at PE;clear hpv hok HN HS;obtain⟨s,dd,sp,dp⟩:=p;simp only at *;go_enter func75,ntmps75;go_wp2_with fail;go_region_held3 (λw'=>w'.cell? ⟨m.B,m.z,none⟩=some (.slice m.A ds.length m.cap) /\ w'.cell? ⟨m.B,m.z+1,none⟩=some (.slice m.L ls.length m.e9) /\ w'.cell? ⟨w,0,none⟩=some (.int .i64 i) /\ w'.cell? ⟨w,1,none⟩=some (.int .i64 q)) (go_keep) ((go_at_call 95;refine(HP.out _ M2.drew).mono ?_;rintro e w5⟨rfl,hb5⟩;have D5:=aa hb5 D2.drew;have A5:=A2.drew.keep hb5;have P5:=P2.drew.keep hb5;have R5:=R2.drew.keep hb5;have M5:=M2.drew.below hb5;have g0:=(CK.of_below hb5).cell Q0;have g1:=(CK.of_below hb5).cell Q1;obtain⟨g2,g3⟩:=A5.two))
 clear hb5 D2 A2 P2 R2 M2 q0 q1 Q0 Q1 a0 a1 HP g0 g1 g2 g3;obtain⟨⟨l0,l1,l2,l3,l4,l5⟩,⟨f0,f1,f2,f3,f4,f5⟩⟩:=R5.six;have z5:w.heap.size+1+1<w5.heap.size:=R5.lt;obtain⟨p0,p1,p2,p3,_⟩:=P5.four;go_wp2_with fail;refine(PC.out _).mono ?_;rintro e w6⟨rfl,hb6⟩;have D6:=aa hb6 D5;have A6:=A5.keep hb6;have P6:=P5.keep hb6;have R6:=R5.keep hb6;have M6:=M5.below hb6;clear hb6 D5 A5 P5 R5 M5 p0 p1 p2 p3 l0 l1 l2 l3 l4 l5 f0 f1 f2 f3 f4 f5 PC z5;obtain⟨⟨l0,l1,l2,l3,l4,l5⟩,⟨f0,f1,f2,f3,f4,f5⟩⟩:=R6.six;obtain⟨p0,p1,p2,p3',_⟩:=P6.four;obtain⟨a0,a1⟩:=A6.two;go_wp2_with fail;refine(SD.out _ M6).mono ?_;rintro e w7⟨q9,p9,fv,er,rfl,HQ,hb7⟩;obtain⟨he,_,hz⟩:=HQ.out;obtain⟨hq9,hp9,HL⟩:=hz rfl;simp only at he hq9 hp9 HL;have hq9':=hq9.symm;subst he hq9' hp9;have D7:=aa hb7 D6;have R7:=R6.keep hb7;have A7:=A6.keep hb7;have M7:=M6.below hb7;clear hb7 D6 A6 P6 R6 M6 p0 p1 p2 p3' a0 a1 l0 l1 l2 l3 l4 l5 f0 f1 f2 f3 f4 f5 SD HQ hz;obtain⟨_,_,ca,cb,rfl,_⟩:=id HL;have z7:w.heap.size+1+1<w7.heap.size:=R7.lt;have D8:=Below.alN D7 (.cells #[q2,ps,pd,psp,pdp,.func (.func 181) #[] #[.pointer ca,.pointer cb]] 214);have R8:=R7.alloc (.cells #[q2,ps,pd,psp,pdp,.func (.func 181) #[] #[.pointer ca,.pointer cb]] 214);have A8:=A7.alloc (.cells #[q2,ps,pd,psp,pdp,.func (.func 181) #[] #[.pointer ca,.pointer cb]] 214);have M8:=M7.alloc (.cells #[q2,ps,pd,psp,pdp,.func (.func 181) #[] #[.pointer ca,.pointer cb]] 214);have HL8:=HL.below ((Below.refl _ w7).alloc (Nat.le_refl _) (.cells #[q2,ps,pd,psp,pdp,.func (.func 181) #[] #[.pointer ca,.pointer cb]] 214));have O8:=ah w7 #[q2,ps,pd,psp,pdp,.func (.func 181) #[] #[.pointer ca,.pointer cb]] 214;clear D7 R7 A7 M7 HL;go_upto_region 9 with fail;generalize hON:w7.heap.size=on at *;generalize hW:w7.alloc (.cells #[q2,ps,pd,psp,pdp,.func (.func 181) #[] #[.pointer ca,.pointer cb]] 214)=w8 at *;clear hON hW;obtain⟨g0,g1,g2,g3⟩:=peS M8 A8 O8;have D8a:=(Below.alN D8 (.cells #[.int .i64 0,.int .i64 0] 27)).drew;have M8a:=(M8.alloc (.cells #[.int .i64 0,.int .i64 0] 27)).drew;have A8a:=(A8.alloc (.cells #[.int .i64 0,.int .i64 0] 27)).drew;have O8a:=(O8.alloc (.cells #[.int .i64 0,.int .i64 0] 27)).drew;have R8a:=(R8.alloc (.cells #[.int .i64 0,.int .i64 0] 27)).drew;have H8a:=HL8.below ((Below.refl _ w8).alloc (Nat.le_refl _) (.cells #[.int .i64 0,.int .i64 0] 27)).drew;have H8d:=HL8.below (Below.refl _ w8).drew;have M8d:=M8.drew;have A8d:=A8.drew;have O8d:=O8.drew;go_cut [13,14] (λv13 v14 wx=>∃g,v13=.pointer (some ⟨g,0,none⟩) /\ v14=.bool ok /\ Bk wx g #[tx,ty] 27 /\ w.heap.size+1+1<g /\ Bk wx on #[q2,ps,pd,psp,pdp,.func (.func 181) #[] #[.pointer ca,.pointer cb]] 214 /\ Bk wx (w.heap.size+1+1) #[.int .i64 0,.int .i64 0,.int .i64 0,.int .i64 0,.int .i64 0,.int .i64 0] 59 /\ MemAt wx m ds ls n M /\ LrnAt w6.heap.size wx m (.func (.func 181) #[] #[.pointer ca,.pointer cb]) (.flow j p3) /\ Below w w wx)
 case first =>
  have zz8:w.heap.size+1+1<w8.heap.size:=R8.lt;go_region_held3 (λw'=>w'.cell? ⟨m.B,m.z,none⟩=some (.slice m.A ds.length m.cap) /\ w'.cell? ⟨m.B,m.z+1,none⟩=some (.slice m.L ls.length m.e9) /\ w'.cell? ⟨w,0,none⟩=some (.int .i64 i) /\ w'.cell? ⟨on,0,none⟩=some (.int .i64 q2)) (first|exact peS (by first|assumption|exact MemAt.alloc ‹_› _) (by first|assumption|exact Bk.alloc ‹_› _) (by first|assumption|exact Bk.alloc ‹_› _)|exact peS (M8.below ((E9.setCell (p:=⟨w8,0,none⟩) (Nat.le_refl _) _).setCell (p:=⟨w8,1,none⟩) (Nat.le_refl _) _)) (A8.keep ((E9.setCell (p:=⟨w8,0,none⟩) (Nat.le_refl _) _).setCell (p:=⟨w8,1,none⟩) (Nat.le_refl _) _)) (O8.keep ((E9.setCell (p:=⟨w8,0,none⟩) (Nat.le_refl _) _).setCell (p:=⟨w8,1,none⟩) (Nat.le_refl _) _))) (first|(go_at_call 59;refine(PE.out _ M8d).mono ?_;rintro e w9⟨rfl,hb9⟩;have D9:=aa hb9 D8.drew;have M9:=M8d.below hb9;have A9:=A8d.keep hb9;have O9:=O8d.keep hb9;have R9:=R8.drew.keep hb9;have H9:=H8d.below hb9;have G9:=ah w9 #[tx,ty] 27)|(go_at_call 59;refine(PE.out _ M8a).mono ?_;rintro e w9⟨rfl,hb9⟩;have D9:=aa hb9 D8a;have M9:=M8a.below hb9;have A9:=A8a.keep hb9;have O9:=O8a.keep hb9;have R9:=R8a.keep hb9;have H9:=H8a.below hb9;have G9:=(ah w8 #[.int .i64 0,.int .i64 0] 27).drew.keep hb9;have E9:=aa hb9 ((Below.refl _ w8).alloc (Nat.le_refl _) (.cells #[.int .i64 0,.int .i64 0] 27)).drew;have gf0:=G9.fz 0;have gf1:=G9.fz 1;obtain⟨gg0,gg1⟩:=G9.two))
  all_goals
   go_wp2_with fail
   go_meet
   first
    | exact⟨_,rfl,rfl,G9,(by have:=R9.lt;omega),O9.alloc _,R9.alloc _,M9.alloc _,H9.below ((Below.refl _ _).alloc (Nat.le_refl _) _),Below.alN D9 _⟩
    | exact⟨_,rfl,rfl,(by have:=(G9.setS (j:=0) (.int .i64 tx)).setS (j:=1) (.int .i64 ty);simpa using this),zz8,O8.keep ((E9.setCell (p:=⟨w8,0,none⟩) (Nat.le_refl _) _).setCell (p:=⟨w8,1,none⟩) (Nat.le_refl _) _),R8.keep ((E9.setCell (p:=⟨w8,0,none⟩) (Nat.le_refl _) _).setCell (p:=⟨w8,1,none⟩) (Nat.le_refl _) _),M8.below ((E9.setCell (p:=⟨w8,0,none⟩) (Nat.le_refl _) _).setCell (p:=⟨w8,1,none⟩) (Nat.le_refl _) _),HL8.below ((E9.setCell (p:=⟨w8,0,none⟩) (Nat.le_refl _) _).setCell (p:=⟨w8,1,none⟩) (Nat.le_refl _) _),aa ((E9.setCell (p:=⟨w8,0,none⟩) (Nat.le_refl _) _).setCell (p:=⟨w8,1,none⟩) (Nat.le_refl _) _) D8⟩
 case rest =>
  clear D8 R8 A8 M8 HL8 O8 g0 g1 g2 g3 D8a M8a A8a O8a R8a H8a H8d M8d A8d O8d PE;obtain⟨g,rfl,rfl,G8,zg,O8,R8,M8,HL8,D8⟩:=hcut;obtain⟨⟨l0,l1,l2,l3,l4,l5⟩,⟨f0,f1,f2,f3,f4,f5⟩⟩:=R8.six;cases ok
  ·have HV:Hid (h=aZ 7 M):=HF.out rfl;go_wp2_with fail;refine bodyPost_ret (v:=.tuple #[arV (0,0) zeroP,.int .i64 7]) (by simp[results,results75,go_sem,l0,l1,l2,l3,l4,l5,zeroP]) rfl (eB HV.out hM.out (by go_grown))
  have HV:=HT.out rfl;obtain⟨⟨o0,o1,o2,o3,o4,o5⟩,_⟩:=O8.six;clear l0 l1 l2 l3 l4 l5 f0 f1 f2 f3 f4 f5;go_wp2_with fail;obtain⟨hj,hp3,ca',cb',ee,_,_,d0,d1,d2,d3,d4,d5⟩:=HL8;cases ee;refine(rE _ _ m ds ls n M j p3 _ M8 hn hj hp3 d0 d1 d2 d3 d4 d5).mono ?_;rintro e w9⟨rfl,M9,K9⟩;have G9:=G8.ck (M8.ck K9);have O9:=O8.ck (M8.ck K9);have R9:=R8.ck (M8.ck K9);clear d0 d1 d2 d3 d4 d5 hj hp3;clear o0 o1 o2 o3 o4 o5;obtain⟨⟨o0,o1,o2,o3,o4,o5⟩,_⟩:=O9.six;obtain⟨⟨l0,l1,l2,l3,l4,l5⟩,⟨f0,f1,f2,f3,f4,f5⟩⟩:=R9.six;obtain⟨gx,gy⟩:=G9.two;go_wp2_with fail;refine bodyPost_ret (v:=.tuple #[arV (tx,ty) ⟨ps,pd,psp,pdp⟩,.int .i64 0]) (by simp[results,results75,go_sem,l0,l1,l2,l3,l4,l5]) rfl (iE HV hM.out D8 K9 M9 (by omega) _ _ _ _ _ _)
end Go.Proofs.YtjmclcmgpaofiaaGreat
