/-
  XAK.
-/
import Derived.Test.YtppbfikimalojaaGreatXLy
import Derived.Test.YtppbfikimalojaaGreatXAA
import Derived.Test.YtppbfikimalojaaGreatXAI
import Derived.Test.YtppbfikimalojaaGreatXAJ
import Derived.Maps.AppendAt
import Derived.Deep.Heap
import Derived.OneCell
set_option maxHeartbeats 8000000
set_option maxRecDepth 100000
namespace Go.Proofs.YtppbfikimalojaaGreat
open Tryz
open Go.RowKit
def LM(w:World)(n:Nat)(a b c d e f g h:Value):Prop:=Lk4 w n a b c d/\Lk4 w (n+1) e f g h
theorem LM.cells{w:World}{n:Nat}{a b c d e f g h:Value}(H:LM w n a b c d e f g h):w.cell? ⟨n,0,none⟩=some a/\w.cell? ⟨n,1,none⟩=some b/\w.cell? ⟨n,2,none⟩=some c/\w.cell? ⟨n,3,none⟩=some d/\w.cell? ⟨n+1,0,none⟩=some e/\w.cell? ⟨n+1,1,none⟩=some f/\w.cell? ⟨n+1,2,none⟩=some g/\w.cell? ⟨n+1,3,none⟩=some h:=by
 obtain⟨⟨_,h1,h2,h3,h4⟩,⟨_,h5,h6,h7,h8⟩⟩:=H;exact⟨h1,h2,h3,h4,h5,h6,h7,h8⟩
theorem LM.keep{W w':World}{n:Nat}{a b c d e f g h:Value}(hb:Below W.heap.size W w')(H:LM W n a b c d e f g h):LM w' n a b c d e f g h:=⟨H.1.below hb H.1.1,H.2.below hb H.2.1⟩
theorem LM.drew{w:World}{n:Nat}{a b c d e f g h:Value}(H:LM w n a b c d e f g h):LM w.drew n a b c d e f g h:=H
theorem eY(w:World)(a b c d e f g h:Value)(t:TypeId):LM ((w.alloc (.cells #[a,b,c,d] t)).alloc (.cells #[e,f,g,h] t)) w.heap.size a b c d e f g h:=by
 refine⟨(dR w a b c d t).alloc _,?_⟩;have:=dR (w.alloc (.cells #[a,b,c,d] t)) e f g h t;rw[World.size_alloc]at this;exact this
theorem qq(la lp lb lq ma mp mb mq:Int)(w:World)(h0:((la == ma)&&(lp == mp))=true):Calls prog 124 #[lkA la lp lb lq,lkA ma mp mb mq] w λe w'=>e=.returned (.bool true)/\Below w.heap.size w w':=by
 have D0:=(Below.alN (Below.alN (Below.refl w.heap.size w) (.cells #[.int .i64 la,.int .i64 lp,.int .i64 lb,.int .i64 lq] 96)) (.cells #[.int .i64 ma,.int .i64 mp,.int .i64 mb,.int .i64 mq] 96)).drew;have M0:=(eY w (.int .i64 la) (.int .i64 lp) (.int .i64 lb) (.int .i64 lq) (.int .i64 ma) (.int .i64 mp) (.int .i64 mb) (.int .i64 mq) 96).drew;have FL:Hid (∀w,Calls prog 120 #[lkA la lp lb lq] w λe w'=>e=.returned (plA la lp)/\Below w.heap.size w w'):=λw=>ax _ _ _ _ w;have TL:Hid (∀w,Calls prog 121 #[lkA la lp lb lq] w λe w'=>e=.returned (plA lb lq)/\Below w.heap.size w w'):=λw=>ay _ _ _ _ w;have FM:Hid (∀w,Calls prog 120 #[lkA ma mp mb mq] w λe w'=>e=.returned (plA ma mp)/\Below w.heap.size w w'):=λw=>ax _ _ _ _ w;have TM:Hid (∀w,Calls prog 121 #[lkA ma mp mb mq] w λe w'=>e=.returned (plA mb mq)/\Below w.heap.size w w'):=λw=>ay _ _ _ _ w;have P0:∀w,(binOp .eql 27 (plA la lp) (plA ma mp)).run prog w=.ok (.bool true) w:=λw=>by rw[Q9,h0]
 clear h0;go_enter func124,ntmps124;go_wp2_with fail;refine wp_region_held_drew (S:=(λw'=>w'.cell? ⟨w.heap.size,0,none⟩=some (.int .i64 la)/\w'.cell? ⟨w.heap.size,1,none⟩=some (.int .i64 lp)/\w'.cell? ⟨w.heap.size,2,none⟩=some (.int .i64 lb)/\w'.cell? ⟨w.heap.size,3,none⟩=some (.int .i64 lq)/\w'.cell? ⟨w.heap.size+1,0,none⟩=some (.int .i64 ma)/\w'.cell? ⟨w.heap.size+1,1,none⟩=some (.int .i64 mp)/\w'.cell? ⟨w.heap.size+1,2,none⟩=some (.int .i64 mb)/\w'.cell? ⟨w.heap.size+1,3,none⟩=some (.int .i64 mq))) (by kernel_rfl) (LM.cells (n:=w.heap.size) ‹_›) (λhHeld=>?_);refine tk 0 ?_;try simp only[ly]
 refine tk 2 ?_;try simp only[ly]
 refine rd 1 (λK hK=>?_);go_simp;refine(FL.out _).mono ?_;rintro e wz⟨rfl,hbz⟩;have Dz:=f7 (W0:=w) hbz ‹_›;have Pz:=LM.keep (n:=w.heap.size) hbz ‹_›;clear hbz;try go_wp2_with fail
 clear hHeld;refine hK.out _ _ (LM.cells (n:=w.heap.size) ‹_›) (λhHeld=>?_);clear hK K;try simp only[ly]
 refine rd 3 (λK hK=>?_);go_simp;refine(FM.out _).mono ?_;rintro e wz⟨rfl,hbz⟩;have Dz:=f7 (W0:=w) hbz ‹_›;have Pz:=LM.keep (n:=w.heap.size) hbz ‹_›;clear hbz;try go_wp2_with fail
 clear hHeld;refine hK.out _ _ (LM.cells (n:=w.heap.size) ‹_›) (λhHeld=>?_);clear hK K;try simp only[ly]
 refine tk 4 ?_;try simp only[ly]
 refine tk 5 ?_;try simp only[ly]
 refine tk0 6 ?_;try simp only[ly]
 refine tk0 7 ?_;try simp only[ly]
 refine tk0 8 ?_;try simp only[ly]
 refine tk0 9 ?_;try simp only[ly]
 refine tk0 10 ?_;try simp only[ly]
 refine tk 11 ?_;try simp only[ly]
 refine tk 12 ?_;try simp only[ly]
 refine tk0 13 ?_;try simp only[ly]
 refine tk0 14 ?_;try simp only[ly]
 refine tk0 15 ?_;try simp only[ly]
 refine tk0 16 ?_;try simp only[ly]
 refine tk0 17 ?_;try simp only[ly]
 refine tk 18 ?_;try simp only[ly]
 refine tk 19 ?_;try simp only[ly]
 refine tk0 20 ?_;try simp only[ly]
 refine tk0 21 ?_;try simp only[ly]
 refine tk0 22 ?_;try simp only[ly]
 refine tk0 23 ?_;try simp only[ly]
 refine tk0 24 ?_;try simp only[ly]
 refine tk 25 ?_;try simp only[ly]
 refine tk 26 ?_;try simp only[ly]
 refine wpAnyH_done (by kernel_rfl) ?_ _;go_wp2_with fail;go_ret;exact⟨rfl,by assumption⟩
theorem qr(la lp lb lq ma mp mb mq:Int)(w:World)(h0:((la == ma)&&(lp == mp))=false)(h1:((la == mb)&&(lp == mq))=true):Calls prog 124 #[lkA la lp lb lq,lkA ma mp mb mq] w λe w'=>e=.returned (.bool true)/\Below w.heap.size w w':=by
 have D0:=(Below.alN (Below.alN (Below.refl w.heap.size w) (.cells #[.int .i64 la,.int .i64 lp,.int .i64 lb,.int .i64 lq] 96)) (.cells #[.int .i64 ma,.int .i64 mp,.int .i64 mb,.int .i64 mq] 96)).drew;have M0:=(eY w (.int .i64 la) (.int .i64 lp) (.int .i64 lb) (.int .i64 lq) (.int .i64 ma) (.int .i64 mp) (.int .i64 mb) (.int .i64 mq) 96).drew;have FL:Hid (∀w,Calls prog 120 #[lkA la lp lb lq] w λe w'=>e=.returned (plA la lp)/\Below w.heap.size w w'):=λw=>ax _ _ _ _ w;have TL:Hid (∀w,Calls prog 121 #[lkA la lp lb lq] w λe w'=>e=.returned (plA lb lq)/\Below w.heap.size w w'):=λw=>ay _ _ _ _ w;have FM:Hid (∀w,Calls prog 120 #[lkA ma mp mb mq] w λe w'=>e=.returned (plA ma mp)/\Below w.heap.size w w'):=λw=>ax _ _ _ _ w;have TM:Hid (∀w,Calls prog 121 #[lkA ma mp mb mq] w λe w'=>e=.returned (plA mb mq)/\Below w.heap.size w w'):=λw=>ay _ _ _ _ w;have P0:∀w,(binOp .eql 27 (plA la lp) (plA ma mp)).run prog w=.ok (.bool false) w:=λw=>by rw[Q9,h0]
 have P1:∀w,(binOp .eql 27 (plA la lp) (plA mb mq)).run prog w=.ok (.bool true) w:=λw=>by rw[Q9,h1]
 clear h0 h1;go_enter func124,ntmps124;go_wp2_with fail;refine wp_region_held_drew (S:=(λw'=>w'.cell? ⟨w.heap.size,0,none⟩=some (.int .i64 la)/\w'.cell? ⟨w.heap.size,1,none⟩=some (.int .i64 lp)/\w'.cell? ⟨w.heap.size,2,none⟩=some (.int .i64 lb)/\w'.cell? ⟨w.heap.size,3,none⟩=some (.int .i64 lq)/\w'.cell? ⟨w.heap.size+1,0,none⟩=some (.int .i64 ma)/\w'.cell? ⟨w.heap.size+1,1,none⟩=some (.int .i64 mp)/\w'.cell? ⟨w.heap.size+1,2,none⟩=some (.int .i64 mb)/\w'.cell? ⟨w.heap.size+1,3,none⟩=some (.int .i64 mq))) (by kernel_rfl) (LM.cells (n:=w.heap.size) ‹_›) (λhHeld=>?_);refine tk 0 ?_;try simp only[ly]
 refine tk 2 ?_;try simp only[ly]
 refine rd 1 (λK hK=>?_);go_simp;refine(FL.out _).mono ?_;rintro e wz⟨rfl,hbz⟩;have Dz:=f7 (W0:=w) hbz ‹_›;have Pz:=LM.keep (n:=w.heap.size) hbz ‹_›;clear hbz;try go_wp2_with fail
 clear hHeld;refine hK.out _ _ (LM.cells (n:=w.heap.size) ‹_›) (λhHeld=>?_);clear hK K;try simp only[ly]
 refine rd 3 (λK hK=>?_);go_simp;refine(FM.out _).mono ?_;rintro e wz⟨rfl,hbz⟩;have Dz:=f7 (W0:=w) hbz ‹_›;have Pz:=LM.keep (n:=w.heap.size) hbz ‹_›;clear hbz;try go_wp2_with fail
 clear hHeld;refine hK.out _ _ (LM.cells (n:=w.heap.size) ‹_›) (λhHeld=>?_);clear hK K;try simp only[ly]
 refine tk 4 ?_;try simp only[ly]
 refine tk 5 ?_;try simp only[ly]
 refine tk 6 ?_;try simp only[ly]
 refine tk 8 ?_;try simp only[ly]
 refine rd 7 (λK hK=>?_);go_simp;refine(FL.out _).mono ?_;rintro e wz⟨rfl,hbz⟩;have Dz:=f7 (W0:=w) hbz ‹_›;have Pz:=LM.keep (n:=w.heap.size) hbz ‹_›;clear hbz;try go_wp2_with fail
 clear hHeld;refine hK.out _ _ (LM.cells (n:=w.heap.size) ‹_›) (λhHeld=>?_);clear hK K;try simp only[ly]
 refine rd 9 (λK hK=>?_);go_simp;refine(TM.out _).mono ?_;rintro e wz⟨rfl,hbz⟩;have Dz:=f7 (W0:=w) hbz ‹_›;have Pz:=LM.keep (n:=w.heap.size) hbz ‹_›;clear hbz;try go_wp2_with fail
 clear hHeld;refine hK.out _ _ (LM.cells (n:=w.heap.size) ‹_›) (λhHeld=>?_);clear hK K;try simp only[ly]
 refine tk 10 ?_;try simp only[ly]
 refine tk 11 ?_;try simp only[ly]
 refine tk 12 ?_;try simp only[ly]
 refine tk0 13 ?_;try simp only[ly]
 refine tk0 14 ?_;try simp only[ly]
 refine tk0 15 ?_;try simp only[ly]
 refine tk0 16 ?_;try simp only[ly]
 refine tk0 17 ?_;try simp only[ly]
 refine tk 18 ?_;try simp only[ly]
 refine tk 19 ?_;try simp only[ly]
 refine tk0 20 ?_;try simp only[ly]
 refine tk0 21 ?_;try simp only[ly]
 refine tk0 22 ?_;try simp only[ly]
 refine tk0 23 ?_;try simp only[ly]
 refine tk0 24 ?_;try simp only[ly]
 refine tk 25 ?_;try simp only[ly]
 refine tk 26 ?_;try simp only[ly]
 refine wpAnyH_done (by kernel_rfl) ?_ _;go_wp2_with fail;go_ret;exact⟨rfl,by assumption⟩
theorem qs(la lp lb lq ma mp mb mq:Int)(w:World)(h0:((la == ma)&&(lp == mp))=false)(h1:((la == mb)&&(lp == mq))=false)(h2:((lb == ma)&&(lq == mp))=true):Calls prog 124 #[lkA la lp lb lq,lkA ma mp mb mq] w λe w'=>e=.returned (.bool true)/\Below w.heap.size w w':=by
 have D0:=(Below.alN (Below.alN (Below.refl w.heap.size w) (.cells #[.int .i64 la,.int .i64 lp,.int .i64 lb,.int .i64 lq] 96)) (.cells #[.int .i64 ma,.int .i64 mp,.int .i64 mb,.int .i64 mq] 96)).drew;have M0:=(eY w (.int .i64 la) (.int .i64 lp) (.int .i64 lb) (.int .i64 lq) (.int .i64 ma) (.int .i64 mp) (.int .i64 mb) (.int .i64 mq) 96).drew;have FL:Hid (∀w,Calls prog 120 #[lkA la lp lb lq] w λe w'=>e=.returned (plA la lp)/\Below w.heap.size w w'):=λw=>ax _ _ _ _ w;have TL:Hid (∀w,Calls prog 121 #[lkA la lp lb lq] w λe w'=>e=.returned (plA lb lq)/\Below w.heap.size w w'):=λw=>ay _ _ _ _ w;have FM:Hid (∀w,Calls prog 120 #[lkA ma mp mb mq] w λe w'=>e=.returned (plA ma mp)/\Below w.heap.size w w'):=λw=>ax _ _ _ _ w;have TM:Hid (∀w,Calls prog 121 #[lkA ma mp mb mq] w λe w'=>e=.returned (plA mb mq)/\Below w.heap.size w w'):=λw=>ay _ _ _ _ w;have P0:∀w,(binOp .eql 27 (plA la lp) (plA ma mp)).run prog w=.ok (.bool false) w:=λw=>by rw[Q9,h0]
 have P1:∀w,(binOp .eql 27 (plA la lp) (plA mb mq)).run prog w=.ok (.bool false) w:=λw=>by rw[Q9,h1]
 have P2:∀w,(binOp .eql 27 (plA lb lq) (plA ma mp)).run prog w=.ok (.bool true) w:=λw=>by rw[Q9,h2]
 clear h0 h1 h2;go_enter func124,ntmps124;go_wp2_with fail;refine wp_region_held_drew (S:=(λw'=>w'.cell? ⟨w.heap.size,0,none⟩=some (.int .i64 la)/\w'.cell? ⟨w.heap.size,1,none⟩=some (.int .i64 lp)/\w'.cell? ⟨w.heap.size,2,none⟩=some (.int .i64 lb)/\w'.cell? ⟨w.heap.size,3,none⟩=some (.int .i64 lq)/\w'.cell? ⟨w.heap.size+1,0,none⟩=some (.int .i64 ma)/\w'.cell? ⟨w.heap.size+1,1,none⟩=some (.int .i64 mp)/\w'.cell? ⟨w.heap.size+1,2,none⟩=some (.int .i64 mb)/\w'.cell? ⟨w.heap.size+1,3,none⟩=some (.int .i64 mq))) (by kernel_rfl) (LM.cells (n:=w.heap.size) ‹_›) (λhHeld=>?_);refine tk 0 ?_;try simp only[ly]
 refine tk 2 ?_;try simp only[ly]
 refine rd 1 (λK hK=>?_);go_simp;refine(FL.out _).mono ?_;rintro e wz⟨rfl,hbz⟩;have Dz:=f7 (W0:=w) hbz ‹_›;have Pz:=LM.keep (n:=w.heap.size) hbz ‹_›;clear hbz;try go_wp2_with fail
 clear hHeld;refine hK.out _ _ (LM.cells (n:=w.heap.size) ‹_›) (λhHeld=>?_);clear hK K;try simp only[ly]
 refine rd 3 (λK hK=>?_);go_simp;refine(FM.out _).mono ?_;rintro e wz⟨rfl,hbz⟩;have Dz:=f7 (W0:=w) hbz ‹_›;have Pz:=LM.keep (n:=w.heap.size) hbz ‹_›;clear hbz;try go_wp2_with fail
 clear hHeld;refine hK.out _ _ (LM.cells (n:=w.heap.size) ‹_›) (λhHeld=>?_);clear hK K;try simp only[ly]
 refine tk 4 ?_;try simp only[ly]
 refine tk 5 ?_;try simp only[ly]
 refine tk 6 ?_;try simp only[ly]
 refine tk 8 ?_;try simp only[ly]
 refine rd 7 (λK hK=>?_);go_simp;refine(FL.out _).mono ?_;rintro e wz⟨rfl,hbz⟩;have Dz:=f7 (W0:=w) hbz ‹_›;have Pz:=LM.keep (n:=w.heap.size) hbz ‹_›;clear hbz;try go_wp2_with fail
 clear hHeld;refine hK.out _ _ (LM.cells (n:=w.heap.size) ‹_›) (λhHeld=>?_);clear hK K;try simp only[ly]
 refine rd 9 (λK hK=>?_);go_simp;refine(TM.out _).mono ?_;rintro e wz⟨rfl,hbz⟩;have Dz:=f7 (W0:=w) hbz ‹_›;have Pz:=LM.keep (n:=w.heap.size) hbz ‹_›;clear hbz;try go_wp2_with fail
 clear hHeld;refine hK.out _ _ (LM.cells (n:=w.heap.size) ‹_›) (λhHeld=>?_);clear hK K;try simp only[ly]
 refine tk 10 ?_;try simp only[ly]
 refine tk 11 ?_;try simp only[ly]
 refine tk 12 ?_;try simp only[ly]
 refine tk 13 ?_;try simp only[ly]
 refine tk 15 ?_;try simp only[ly]
 refine rd 14 (λK hK=>?_);go_simp;refine(TL.out _).mono ?_;rintro e wz⟨rfl,hbz⟩;have Dz:=f7 (W0:=w) hbz ‹_›;have Pz:=LM.keep (n:=w.heap.size) hbz ‹_›;clear hbz;try go_wp2_with fail
 clear hHeld;refine hK.out _ _ (LM.cells (n:=w.heap.size) ‹_›) (λhHeld=>?_);clear hK K;try simp only[ly]
 refine rd 16 (λK hK=>?_);go_simp;refine(FM.out _).mono ?_;rintro e wz⟨rfl,hbz⟩;have Dz:=f7 (W0:=w) hbz ‹_›;have Pz:=LM.keep (n:=w.heap.size) hbz ‹_›;clear hbz;try go_wp2_with fail
 clear hHeld;refine hK.out _ _ (LM.cells (n:=w.heap.size) ‹_›) (λhHeld=>?_);clear hK K;try simp only[ly]
 refine tk 17 ?_;try simp only[ly]
 refine tk 18 ?_;try simp only[ly]
 refine tk 19 ?_;try simp only[ly]
 refine tk0 20 ?_;try simp only[ly]
 refine tk0 21 ?_;try simp only[ly]
 refine tk0 22 ?_;try simp only[ly]
 refine tk0 23 ?_;try simp only[ly]
 refine tk0 24 ?_;try simp only[ly]
 refine tk 25 ?_;try simp only[ly]
 refine tk 26 ?_;try simp only[ly]
 refine wpAnyH_done (by kernel_rfl) ?_ _;go_wp2_with fail;go_ret;exact⟨rfl,by assumption⟩
theorem qt(la lp lb lq ma mp mb mq:Int)(x3:Bool)(w:World)(h0:((la == ma)&&(lp == mp))=false)(h1:((la == mb)&&(lp == mq))=false)(h2:((lb == ma)&&(lq == mp))=false)(h3:((lb == mb)&&(lq == mq))=x3):Calls prog 124 #[lkA la lp lb lq,lkA ma mp mb mq] w λe w'=>e=.returned (.bool x3)/\Below w.heap.size w w':=by
 have D0:=(Below.alN (Below.alN (Below.refl w.heap.size w) (.cells #[.int .i64 la,.int .i64 lp,.int .i64 lb,.int .i64 lq] 96)) (.cells #[.int .i64 ma,.int .i64 mp,.int .i64 mb,.int .i64 mq] 96)).drew;have M0:=(eY w (.int .i64 la) (.int .i64 lp) (.int .i64 lb) (.int .i64 lq) (.int .i64 ma) (.int .i64 mp) (.int .i64 mb) (.int .i64 mq) 96).drew;have FL:Hid (∀w,Calls prog 120 #[lkA la lp lb lq] w λe w'=>e=.returned (plA la lp)/\Below w.heap.size w w'):=λw=>ax _ _ _ _ w;have TL:Hid (∀w,Calls prog 121 #[lkA la lp lb lq] w λe w'=>e=.returned (plA lb lq)/\Below w.heap.size w w'):=λw=>ay _ _ _ _ w;have FM:Hid (∀w,Calls prog 120 #[lkA ma mp mb mq] w λe w'=>e=.returned (plA ma mp)/\Below w.heap.size w w'):=λw=>ax _ _ _ _ w;have TM:Hid (∀w,Calls prog 121 #[lkA ma mp mb mq] w λe w'=>e=.returned (plA mb mq)/\Below w.heap.size w w'):=λw=>ay _ _ _ _ w;have P0:∀w,(binOp .eql 27 (plA la lp) (plA ma mp)).run prog w=.ok (.bool false) w:=λw=>by rw[Q9,h0]
 have P1:∀w,(binOp .eql 27 (plA la lp) (plA mb mq)).run prog w=.ok (.bool false) w:=λw=>by rw[Q9,h1]
 have P2:∀w,(binOp .eql 27 (plA lb lq) (plA ma mp)).run prog w=.ok (.bool false) w:=λw=>by rw[Q9,h2]
 have P3:∀w,(binOp .eql 27 (plA lb lq) (plA mb mq)).run prog w=.ok (.bool x3) w:=λw=>by rw[Q9,h3]
 clear h0 h1 h2 h3;go_enter func124,ntmps124;go_wp2_with fail;refine wp_region_held_drew (S:=(λw'=>w'.cell? ⟨w.heap.size,0,none⟩=some (.int .i64 la)/\w'.cell? ⟨w.heap.size,1,none⟩=some (.int .i64 lp)/\w'.cell? ⟨w.heap.size,2,none⟩=some (.int .i64 lb)/\w'.cell? ⟨w.heap.size,3,none⟩=some (.int .i64 lq)/\w'.cell? ⟨w.heap.size+1,0,none⟩=some (.int .i64 ma)/\w'.cell? ⟨w.heap.size+1,1,none⟩=some (.int .i64 mp)/\w'.cell? ⟨w.heap.size+1,2,none⟩=some (.int .i64 mb)/\w'.cell? ⟨w.heap.size+1,3,none⟩=some (.int .i64 mq))) (by kernel_rfl) (LM.cells (n:=w.heap.size) ‹_›) (λhHeld=>?_);refine tk 0 ?_;try simp only[ly]
 refine tk 2 ?_;try simp only[ly]
 refine rd 1 (λK hK=>?_);go_simp;refine(FL.out _).mono ?_;rintro e wz⟨rfl,hbz⟩;have Dz:=f7 (W0:=w) hbz ‹_›;have Pz:=LM.keep (n:=w.heap.size) hbz ‹_›;clear hbz;try go_wp2_with fail
 clear hHeld;refine hK.out _ _ (LM.cells (n:=w.heap.size) ‹_›) (λhHeld=>?_);clear hK K;try simp only[ly]
 refine rd 3 (λK hK=>?_);go_simp;refine(FM.out _).mono ?_;rintro e wz⟨rfl,hbz⟩;have Dz:=f7 (W0:=w) hbz ‹_›;have Pz:=LM.keep (n:=w.heap.size) hbz ‹_›;clear hbz;try go_wp2_with fail
 clear hHeld;refine hK.out _ _ (LM.cells (n:=w.heap.size) ‹_›) (λhHeld=>?_);clear hK K;try simp only[ly]
 refine tk 4 ?_;try simp only[ly]
 refine tk 5 ?_;try simp only[ly]
 refine tk 6 ?_;try simp only[ly]
 refine tk 8 ?_;try simp only[ly]
 refine rd 7 (λK hK=>?_);go_simp;refine(FL.out _).mono ?_;rintro e wz⟨rfl,hbz⟩;have Dz:=f7 (W0:=w) hbz ‹_›;have Pz:=LM.keep (n:=w.heap.size) hbz ‹_›;clear hbz;try go_wp2_with fail
 clear hHeld;refine hK.out _ _ (LM.cells (n:=w.heap.size) ‹_›) (λhHeld=>?_);clear hK K;try simp only[ly]
 refine rd 9 (λK hK=>?_);go_simp;refine(TM.out _).mono ?_;rintro e wz⟨rfl,hbz⟩;have Dz:=f7 (W0:=w) hbz ‹_›;have Pz:=LM.keep (n:=w.heap.size) hbz ‹_›;clear hbz;try go_wp2_with fail
 clear hHeld;refine hK.out _ _ (LM.cells (n:=w.heap.size) ‹_›) (λhHeld=>?_);clear hK K;try simp only[ly]
 refine tk 10 ?_;try simp only[ly]
 refine tk 11 ?_;try simp only[ly]
 refine tk 12 ?_;try simp only[ly]
 refine tk 13 ?_;try simp only[ly]
 refine tk 15 ?_;try simp only[ly]
 refine rd 14 (λK hK=>?_);go_simp;refine(TL.out _).mono ?_;rintro e wz⟨rfl,hbz⟩;have Dz:=f7 (W0:=w) hbz ‹_›;have Pz:=LM.keep (n:=w.heap.size) hbz ‹_›;clear hbz;try go_wp2_with fail
 clear hHeld;refine hK.out _ _ (LM.cells (n:=w.heap.size) ‹_›) (λhHeld=>?_);clear hK K;try simp only[ly]
 refine rd 16 (λK hK=>?_);go_simp;refine(FM.out _).mono ?_;rintro e wz⟨rfl,hbz⟩;have Dz:=f7 (W0:=w) hbz ‹_›;have Pz:=LM.keep (n:=w.heap.size) hbz ‹_›;clear hbz;try go_wp2_with fail
 clear hHeld;refine hK.out _ _ (LM.cells (n:=w.heap.size) ‹_›) (λhHeld=>?_);clear hK K;try simp only[ly]
 refine tk 17 ?_;try simp only[ly]
 refine tk 18 ?_;try simp only[ly]
 refine tk 19 ?_;try simp only[ly]
 refine tk 20 ?_;try simp only[ly]
 refine tk 22 ?_;try simp only[ly]
 refine rd 21 (λK hK=>?_);go_simp;refine(TL.out _).mono ?_;rintro e wz⟨rfl,hbz⟩;have Dz:=f7 (W0:=w) hbz ‹_›;have Pz:=LM.keep (n:=w.heap.size) hbz ‹_›;clear hbz;try go_wp2_with fail
 clear hHeld;refine hK.out _ _ (LM.cells (n:=w.heap.size) ‹_›) (λhHeld=>?_);clear hK K;try simp only[ly]
 refine rd 23 (λK hK=>?_);go_simp;refine(TM.out _).mono ?_;rintro e wz⟨rfl,hbz⟩;have Dz:=f7 (W0:=w) hbz ‹_›;have Pz:=LM.keep (n:=w.heap.size) hbz ‹_›;clear hbz;try go_wp2_with fail
 clear hHeld;refine hK.out _ _ (LM.cells (n:=w.heap.size) ‹_›) (λhHeld=>?_);clear hK K;try simp only[ly]
 refine tk 24 ?_;try simp only[ly]
 refine tk 25 ?_;try simp only[ly]
 refine tk 26 ?_;try simp only[ly]
 refine wpAnyH_done (by kernel_rfl) ?_ _;go_wp2_with fail;go_ret;exact⟨rfl,by assumption⟩
theorem qu(l m:Lk)(w:World):Calls prog 124 #[lkA l.a l.p l.b l.q,lkA m.a m.p m.b m.q] w λe w'=>e=.returned (.bool (meetB l m))/\Below w.heap.size w w':=by
 unfold meetB;cases h0:((l.a == m.a)&&(l.p == m.p))
 ·cases h1:((l.a == m.b)&&(l.p == m.q))
  ·cases h2:((l.b == m.a)&&(l.q == m.p))
   ·exact qt _ _ _ _ _ _ _ _ _ w h0 h1 h2 rfl
   ·exact qs _ _ _ _ _ _ _ _ w h0 h1 h2
  ·exact qr _ _ _ _ _ _ _ _ w h0 h1
 ·exact qq _ _ _ _ _ _ _ _ w h0
theorem qv(o l:Lk)(n0:Nat)(w:World)(hT:Lk4 w n0 (.int .i64 l.a) (.int .i64 l.p) (.int .i64 l.b) (.int .i64 l.q)) :
  Calls prog 123 #[lkA o.a o.p o.b o.q,.pointer (some ⟨n0,0,none⟩)] w λe w'=>e=.returned (.bool (meetB o l))/\Below w.heap.size w w':=by
 have D0:=Below.alN (Below.refl w.heap.size w) (.cells #[.int .i64 o.a,.int .i64 o.p,.int .i64 o.b,.int .i64 o.q] 96);have T1:=hT.alloc (.cells #[.int .i64 o.a,.int .i64 o.p,.int .i64 o.b,.int .i64 o.q] 96);obtain⟨l0,g0,g1,g2,g3⟩:=T1;have SM:Hid (∀w,Calls prog 124 #[lkA o.a o.p o.b o.q,lkA l.a l.p l.b l.q] w λe w'=>e=.returned (.bool (meetB o l))/\Below w.heap.size w w'):=λw=>qu o l w;clear hT;generalize meetB o l=x at *;generalize o.a=oa at *;generalize o.p=op at *;generalize o.b=ob at *;generalize o.q=oq at *;generalize l.a=la at *;generalize l.p=lp at *;generalize l.b=lb at *;generalize l.q=lq at *;go_enter func123,ntmps123;go_wp2_with fail;refine(SM.out _).mono ?_;rintro e w1⟨rfl,hb1⟩;have D1:=f7 hb1 D0;clear D0 hb1 g0 g1 g2 g3 SM;go_wp2_with fail;go_ret;exact⟨rfl,D1⟩
theorem qw{ls:List Lk}{k:Nat}{m l:Lk}(h:ls[k]?=some m):(ls.take (k+1)).any (λm=>meetB m l)=((ls.take k).any (λm=>meetB m l)||meetB m l):=by
 obtain⟨hk,e⟩:=List.getElem?_eq_some_iff.1 h;rw[List.take_succ_eq_append_getElem hk,e];simp
theorem qx(A:Option Addr)(n cap:Nat)(ls:List Lk)(l:Lk)(n0:Nat)(w:World)(hL:Hid (Links w.heap.size w (.slice A n cap) ls))(hT:Hid (Lk4 w n0 (.int .i64 l.a) (.int .i64 l.p) (.int .i64 l.b) (.int .i64 l.q))) :
  Calls prog 170 #[.slice A n cap,.func (.func 123) #[] #[.pointer (some ⟨n0,0,none⟩)]] w λe w'=>∃j:Int,e=.returned (.int .i64 j)/\Hid (decide (0<=j)=ls.any (λm=>meetB m l))/\Below w.heap.size w w':=by
 obtain⟨rfl,hc,hm⟩:=hL.out.len;unfold maxLen at hm;go_enter func170,ntmps170;go_wp2_with fail;go_loopw[8] (λi wr=>∃k:Nat,i=.int .i64 (k:Int)/\k<=ls.length/\Below w.heap.size w wr/\Hid ((ls.take k).any (λm=>meetB m l)=false)) (λi _=>ls.length-(intOf i).toNat)
 case atStart=>exact⟨0,rfl,by omega,Below.refl _ _,rfl⟩
 case round =>
  obtain⟨k,rfl,hk,D1,hno⟩:=hrel;by_cases hlt:k<ls.length
  ·obtain⟨m,hxk⟩:∃m,ls[k]?=some m:=⟨_,List.getElem?_eq_getElem hlt⟩;obtain⟨b,o,rfl,hb,c0,c1,c2,c3⟩:=(hL.out.below D1).at hxk;have PR:Hid (Calls prog 123 #[lkA m.a m.p m.b m.q,.pointer (some ⟨n0,0,none⟩)] wr λe w'=>e=.returned (.bool (meetB m l))/\Below wr.heap.size wr w'):=qv m l n0 wr (hT.out.below D1 hT.out.1);have HX:Hid (ls[k]?=some m):=hxk;have k1:(0:Int)<=(k:Int):=by omega
   have k2:(k:Int)<(ls.length:Int):=by omega
   clear hL hxk hT;cases hv:meetB m l
   ·rw[hv]at PR;have HV:Hid ((ls.take (k+1)).any (λm=>meetB m l)=false):=by show _=_;rw[qw HX.out,hno.out,hv];rfl
    clear hv hno HX;generalize m.a=ma at *;generalize m.p=mp at *;generalize m.b=mb at *;generalize m.q=mq at *;go_wp2_with fail;refine PR.out.mono ?_;rintro e w2⟨rfl,hb2⟩;have D2:=f7 hb2 D1;clear hb2 D1 c0 c1 c2 c3 PR;go_wp2_with fail;go_roundw
    case rel=>exact⟨k+1,by go_num,by omega,D2,HV⟩
    case measure=>simp[intOf];omega
   ·rw[hv]at PR;have fin:Hid (ls.any (λm=>meetB m l)=true):=List.any_eq_true.2 ⟨m,List.mem_of_getElem? HX.out,hv⟩;clear hv hno HX;generalize m.a=ma at *;generalize m.p=mp at *;generalize m.b=mb at *;generalize m.q=mq at *;go_wp2_with fail;refine PR.out.mono ?_;rintro e w2⟨rfl,hb2⟩;have D2:=f7 hb2 D1;clear hb2 D1 c0 c1 c2 c3 PR;go_wp2_with fail;go_ret;exact⟨_,rfl,(by show _=_;rw[fin.out];simp),D2⟩
  ·have fin:Hid (ls.any (λm=>meetB m l)=false):=by
    have:=hno.out;rw[show k=ls.length by omega,List.take_length]at this;exact this
   go_wp2_with fail;go_ret;exact⟨_,rfl,(by show _=_;rw[fin.out];simp),D1⟩
theorem qy(A:Option Addr)(n cap:Nat)(ls:List Lk)(l:Lk)(n0:Nat)(w:World)(hL:Hid (Links w.heap.size w (.slice A n cap) ls))(hT:Hid (Lk4 w n0 (.int .i64 l.a) (.int .i64 l.p) (.int .i64 l.b) (.int .i64 l.q))) :
  Calls prog 122 #[.slice A n cap,.func (.func 123) #[] #[.pointer (some ⟨n0,0,none⟩)]] w λe w'=>e=.returned (.bool (ls.any (λm=>meetB m l)))/\Below w.heap.size w w':=by
 have IX:Hid (Calls prog 170 #[.slice A n cap,.func (.func 123) #[] #[.pointer (some ⟨n0,0,none⟩)]] w λe w'=>∃j:Int,e=.returned (.int .i64 j)/\Hid (decide (0<=j)=ls.any (λm=>meetB m l))/\Below w.heap.size w w'):=qx A n cap ls l n0 w hL hT;clear hL hT;generalize ls.any (λm=>meetB m l)=x at *;go_enter func122,ntmps122;go_wp2_with fail;refine IX.out.mono ?_;rintro e w2⟨j,rfl,hj,hb2⟩;clear IX;go_wp2_with fail;go_ret;exact⟨by rw[hj.out];rfl,hb2⟩
theorem hasPlace_any(d p:Int)(A:Option Addr)(n cap:Nat)(vl:Value)(ds:List Dv)(w:World)(hD:Hid (Devs w.heap.size w (.slice A n cap) ds)) :
  Calls prog 119 #[.agg #[.slice A n cap,vl],plA d p] w λe w'=>e=.returned (.bool (isPl ds d p))/\Below w.heap.size w w':=by
 obtain⟨rfl,hc,hm⟩:=hD.out.len;unfold maxLen at hm;have D0:=Below.alN (Below.alN (Below.refl w.heap.size w) (.cells #[.slice A ds.length cap,vl] 25)) (.cells #[.int .i64 d,.int .i64 p] 27);have B1:=(T7 w (.slice A ds.length cap) vl 25).alloc (.cells #[.int .i64 d,.int .i64 p] 27);have B0:=T7 (w.alloc (.cells #[.slice A ds.length cap,vl] 25)) (.int .i64 d) (.int .i64 p) 27;rw[World.size_alloc]at B0;obtain⟨_,q0,q1,_⟩:=id B0;obtain⟨_,q2,_,_⟩:=id B1;unfold isPl;cases h0:decide (0<=d)
 ·go_enter func119,ntmps119;go_wp2_with fail
  go_quiet (fail)
  go_wp2_with fail;go_ret;exact⟨by simp,I7 D0 _⟩
 cases h1:decide (d<(ds.length:Int))
 ·go_enter func119,ntmps119;go_wp2_with fail
  go_quiet (fail)
  go_wp2_with fail;go_ret;exact⟨by simp,I7 D0 _⟩
 cases h2:decide (0<=p)
 ·go_enter func119,ntmps119;go_wp2_with fail
  go_quiet (fail)
  go_wp2_with fail;go_ret;exact⟨by simp,I7 D0 _⟩
 have hd0:0<=d:=by simpa using h0
 have hd1:d<(ds.length:Int):=by simpa using h1
 obtain⟨i,rfl⟩:∃i:Nat,d=(i:Int):=⟨d.toNat,by omega⟩;have hi:i<ds.length:=by omega
 obtain⟨x,hx⟩:∃x,ds[i]?=some x:=⟨_,List.getElem?_eq_getElem hi⟩;obtain⟨b,o,vb,vr,vt,rfl,hb,_,_,_,c0,c1,c2,c3,c4,c5,c6⟩:=(hD.out.below D0).at hx;have ek:k9 ds (i:Int)=x.kind:=by
  unfold k9;rw[Int.toNat_natCast,hx];rfl
 rw[ek];have PO:Hid (∀w,Calls prog 54 #[.int .i64 x.kind] w λe w'=>e=.returned (.int .i64 (portsV x.kind))/\w'=w):=λw=>fM x.kind w;clear hD hx ek c0 c2 c3 c4 c5 c6 hd0 hd1;generalize portsV x.kind=pk at *;generalize x.kind=kd at *;go_enter func119,ntmps119;go_wp2_with fail
 go_quiet ((go_at_call 54;exact Calls.quiet_of_same (PO.out _)))
 go_wp2_with fail;go_ret;exact⟨by simp,I7 D0 _⟩
def LB(w:World)(n:Nat)(x y a b c d:Value):Prop:=Box2 w n x y/\Lk4 w (n+1) a b c d
theorem LB.cells{w:World}{n:Nat}{x y a b c d:Value}(H:LB w n x y a b c d):w.cell? ⟨n,0,none⟩=some x/\w.cell? ⟨n,1,none⟩=some y/\w.cell? ⟨n+1,0,none⟩=some a/\w.cell? ⟨n+1,1,none⟩=some b/\w.cell? ⟨n+1,2,none⟩=some c/\w.cell? ⟨n+1,3,none⟩=some d:=by
 obtain⟨⟨_,h1,h2,_⟩,⟨_,h5,h6,h7,h8⟩⟩:=H;exact⟨h1,h2,h5,h6,h7,h8⟩
theorem LB.keep{W w':World}{n:Nat}{x y a b c d:Value}(hb:Below W.heap.size W w')(H:LB W n x y a b c d):LB w' n x y a b c d:=⟨H.1.below hb H.1.1,H.2.below hb H.2.1⟩
theorem LB.drew{w:World}{n:Nat}{x y a b c d:Value}(H:LB w n x y a b c d):LB w.drew n x y a b c d:=H
theorem qz(w:World)(x y a b c d:Value)(s t:TypeId):LB ((w.alloc (.cells #[x,y] s)).alloc (.cells #[a,b,c,d] t)) w.heap.size x y a b c d:=by
 refine⟨(T7 w x y s).alloc _,?_⟩;have:=dR (w.alloc (.cells #[x,y] s)) a b c d t;rw[World.size_alloc]at this;exact this
def linkTold(ds:List Dv)(ahead:List Lk)(l:Lk):Int:=if isPl ds l.a l.p&&isPl ds l.b l.q then(if selfB l||ahead.any (λm=>meetB m l)then 5 else 0)else 1
theorem qA(A B:Option Addr)(cap d8:Nat)(ds:List Dv)(ls:List Lk)(j:Nat)(l:Lk)(w:World)(hx:Hid (ls[j]?=some l))(hD:Hid (Devs w.heap.size w (.slice A ds.length cap) ds))(hL:Hid (Links w.heap.size w (.slice B ls.length d8) ls)) :
  Calls prog 66 #[.agg #[.slice A ds.length cap,.slice B ls.length d8],.int .i64 (j:Int)] w λe w'=>e=.returned (.int .i64 (linkTold ds (ls.take j) l))/\Below w.heap.size w w':=by
 have hj:j<ls.length:=(List.getElem?_eq_some_iff.1 hx.out).1;obtain⟨_,hc,hm⟩:=hL.out.len;unfold maxLen at hm;have D0:=Below.alN (Below.refl w.heap.size w) (.cells #[.slice A ds.length cap,.slice B ls.length d8] 25);obtain⟨b,o,rfl,hb,c0,c1,c2,c3⟩:=(hL.out.below D0).at hx.out;have k1:(0:Int)<=(j:Int):=by omega
 have k2:(j:Int)<(ls.length:Int):=by omega
 have k3:(j:Int)<=(d8:Int):=by omega
 have FL:Hid (∀w,Calls prog 120 #[lkA l.a l.p l.b l.q] w λe w'=>e=.returned (plA l.a l.p)/\Below w.heap.size w w'):=λw=>ax _ _ _ _ w;have TL:Hid (∀w,Calls prog 121 #[lkA l.a l.p l.b l.q] w λe w'=>e=.returned (plA l.b l.q)/\Below w.heap.size w w'):=λw=>ay _ _ _ _ w;have I1:Hid (∀W,Below w.heap.size w W->Calls prog 119 #[.agg #[.slice A ds.length cap,.slice (some ⟨b,o,none⟩) ls.length d8],plA l.a l.p] W λe w'=>e=.returned (.bool (isPl ds l.a l.p))/\Below W.heap.size W w'):=λW h=>hasPlace_any _ _ _ _ _ _ _ W ((hD.out.below h).mono h.size);have I2:Hid (∀W,Below w.heap.size w W->Calls prog 119 #[.agg #[.slice A ds.length cap,.slice (some ⟨b,o,none⟩) ls.length d8],plA l.b l.q] W λe w'=>e=.returned (.bool (isPl ds l.b l.q))/\Below W.heap.size W w'):=λW h=>hasPlace_any _ _ _ _ _ _ _ W ((hD.out.below h).mono h.size);have CO:Hid (∀W,Below w.heap.size w W->LB W w.heap.size (.slice A ds.length cap) (.slice (some ⟨b,o,none⟩) ls.length d8) (.int .i64 l.a) (.int .i64 l.p) (.int .i64 l.b) (.int .i64 l.q)->Calls prog 122 #[.slice (some ⟨b,o,none⟩) j d8,.func (.func 123) #[] #[.pointer (some ⟨w.heap.size+1,0,none⟩)]] W λe w'=>e=.returned (.bool ((ls.take j).any (λm=>meetB m l)))/\Below W.heap.size W w'):=λW h hT=>qy _ _ _ _ l _ W (Links.mono (SlAt.take (hL.out.below h) j (by omega)) h.size) hT.2;have PE:∀w,(binOp .eql 27 (plA l.a l.p) (plA l.b l.q)).run prog w=.ok (.bool (selfB l)) w:=λw=>Q9 _ _ _ _ w;generalize hres:linkTold ds (ls.take j) l=res;have HR:Hid (res=if isPl ds l.a l.p&&isPl ds l.b l.q then(if selfB l||(ls.take j).any (λm=>meetB m l)then 5 else 0)else 1):=hres.symm;clear hres hL hD hx;generalize isPl ds l.a l.p=x0 at *;generalize isPl ds l.b l.q=x1 at *;generalize selfB l=x2 at *;generalize (ls.take j).any (λm=>meetB m l)=x3 at *;generalize l.a=la at *;generalize l.p=lp at *;generalize l.b=lb at *;generalize l.q=lq at *;have D1:=(Below.alN D0 (.cells #[.int .i64 la,.int .i64 lp,.int .i64 lb,.int .i64 lq] 96)).drew;have M1:=(qz w (.slice A ds.length cap) (.slice (some ⟨b,o,none⟩) ls.length d8) (.int .i64 la) (.int .i64 lp) (.int .i64 lb) (.int .i64 lq) 25 96).drew;clear D0;go_enter func66,ntmps66;go_wp2_with fail;go_region;clear c0 c1 c2 c3;have D2:=D1.drew;have M2:=M1.drew;clear D1 M1;cases x0
 ·have HV:Hid (res=1):=by show _=_;rw[HR.out];rfl
  clear HR I2 CO PE TL;go_wp2_with fail;refine wp_region_held_drew (S:=(λw'=>w'.cell? ⟨w.heap.size,0,none⟩=some (.slice A ds.length cap)/\w'.cell? ⟨w.heap.size,1,none⟩=some (.slice (some ⟨b,o,none⟩) ls.length d8)/\w'.cell? ⟨w.heap.size+1,0,none⟩=some (.int .i64 la)/\w'.cell? ⟨w.heap.size+1,1,none⟩=some (.int .i64 lp)/\w'.cell? ⟨w.heap.size+1,2,none⟩=some (.int .i64 lb)/\w'.cell? ⟨w.heap.size+1,3,none⟩=some (.int .i64 lq))) (by kernel_rfl) (LB.cells (n:=w.heap.size) ‹_›) (λhHeld=>?_);refine tk 0 ?_;try simp only[ly]
  refine tk 1 ?_;try simp only[ly]
  refine rd 2 (λK hK=>?_);go_simp;refine(FL.out _).mono ?_;rintro e wz⟨rfl,hbz⟩;have Dz:=f7 (W0:=w) hbz ‹_›;have Pz:=LB.keep (n:=w.heap.size) hbz ‹_›;clear hbz;try go_wp2_with fail
  clear hHeld;refine hK.out _ _ (LB.cells (n:=w.heap.size) ‹_›) (λhHeld=>?_);clear hK K;try simp only[ly]
  refine rd 3 (λK hK=>?_);go_simp;refine(I1.out _ ‹_›).mono ?_;rintro e wz⟨rfl,hbz⟩;have Dz:=f7 (W0:=w) hbz ‹_›;have Pz:=LB.keep (n:=w.heap.size) hbz ‹_›;clear hbz;try go_wp2_with fail
  clear hHeld;refine hK.out _ _ (LB.cells (n:=w.heap.size) ‹_›) (λhHeld=>?_);clear hK K;try simp only[ly]
  refine tk 4 ?_;try simp only[ly]
  refine tk 5 ?_;try simp only[ly]
  refine tk0 6 ?_;try simp only[ly]
  refine tk0 7 ?_;try simp only[ly]
  refine tk0 8 ?_;try simp only[ly]
  refine tk0 9 ?_;try simp only[ly]
  refine tk0 10 ?_;try simp only[ly]
  refine tk 11 ?_;try simp only[ly]
  refine wpAnyH_done (by kernel_rfl) ?_ _;go_wp2_with fail;go_ret;exact⟨by rw[HV.out];rfl,by assumption⟩
 ·have HR1:Hid (res=if x1 then(if x2||x3 then 5 else 0)else 1):=by show _=_;rw[HR.out];rfl
  clear HR;go_wp2_with fail;refine wp_region_held_drew (S:=(λw'=>w'.cell? ⟨w.heap.size,0,none⟩=some (.slice A ds.length cap)/\w'.cell? ⟨w.heap.size,1,none⟩=some (.slice (some ⟨b,o,none⟩) ls.length d8)/\w'.cell? ⟨w.heap.size+1,0,none⟩=some (.int .i64 la)/\w'.cell? ⟨w.heap.size+1,1,none⟩=some (.int .i64 lp)/\w'.cell? ⟨w.heap.size+1,2,none⟩=some (.int .i64 lb)/\w'.cell? ⟨w.heap.size+1,3,none⟩=some (.int .i64 lq))) (by kernel_rfl) (LB.cells (n:=w.heap.size) ‹_›) (λhHeld=>?_);refine tk 0 ?_;try simp only[ly]
  refine tk 1 ?_;try simp only[ly]
  refine rd 2 (λK hK=>?_);go_simp;refine(FL.out _).mono ?_;rintro e wz⟨rfl,hbz⟩;have Dz:=f7 (W0:=w) hbz ‹_›;have Pz:=LB.keep (n:=w.heap.size) hbz ‹_›;clear hbz;try go_wp2_with fail
  clear hHeld;refine hK.out _ _ (LB.cells (n:=w.heap.size) ‹_›) (λhHeld=>?_);clear hK K;try simp only[ly]
  refine rd 3 (λK hK=>?_);go_simp;refine(I1.out _ ‹_›).mono ?_;rintro e wz⟨rfl,hbz⟩;have Dz:=f7 (W0:=w) hbz ‹_›;have Pz:=LB.keep (n:=w.heap.size) hbz ‹_›;clear hbz;try go_wp2_with fail
  clear hHeld;refine hK.out _ _ (LB.cells (n:=w.heap.size) ‹_›) (λhHeld=>?_);clear hK K;try simp only[ly]
  refine tk 4 ?_;try simp only[ly]
  refine tk 5 ?_;try simp only[ly]
  refine tk 6 ?_;try simp only[ly]
  refine tk 7 ?_;try simp only[ly]
  refine rd 8 (λK hK=>?_);go_simp;refine(TL.out _).mono ?_;rintro e wz⟨rfl,hbz⟩;have Dz:=f7 (W0:=w) hbz ‹_›;have Pz:=LB.keep (n:=w.heap.size) hbz ‹_›;clear hbz;try go_wp2_with fail
  clear hHeld;refine hK.out _ _ (LB.cells (n:=w.heap.size) ‹_›) (λhHeld=>?_);clear hK K;try simp only[ly]
  refine rd 9 (λK hK=>?_);go_simp;refine(I2.out _ ‹_›).mono ?_;rintro e wz⟨rfl,hbz⟩;have Dz:=f7 (W0:=w) hbz ‹_›;have Pz:=LB.keep (n:=w.heap.size) hbz ‹_›;clear hbz;try go_wp2_with fail
  clear hHeld;refine hK.out _ _ (LB.cells (n:=w.heap.size) ‹_›) (λhHeld=>?_);clear hK K;try simp only[ly]
  refine tk 10 ?_;try simp only[ly]
  refine tk 11 ?_;try simp only[ly]
  refine wpAnyH_done (by kernel_rfl) ?_ _;cases x1
  ·go_wp2_with fail;go_ret;exact⟨by rw[HR1.out];rfl,by assumption⟩
  clear D2 M2;cases x2
  ·have HV:Hid (res=if x3 then 5 else 0):=by show _=_;rw[HR1.out];rfl
   clear HR1;go_wp2_with fail;refine wp_region_held_drew (S:=(λw'=>w'.cell? ⟨w.heap.size,0,none⟩=some (.slice A ds.length cap)/\w'.cell? ⟨w.heap.size,1,none⟩=some (.slice (some ⟨b,o,none⟩) ls.length d8)/\w'.cell? ⟨w.heap.size+1,0,none⟩=some (.int .i64 la)/\w'.cell? ⟨w.heap.size+1,1,none⟩=some (.int .i64 lp)/\w'.cell? ⟨w.heap.size+1,2,none⟩=some (.int .i64 lb)/\w'.cell? ⟨w.heap.size+1,3,none⟩=some (.int .i64 lq))) (by kernel_rfl) (LB.cells (n:=w.heap.size) (by first|assumption|exact Below.drew ‹_›|exact LB.drew ‹_›)) (λhHeld=>?_);refine tk 0 ?_ (hS:=by first|assumption|exact Below.drew ‹_›|exact LB.drew ‹_›);try simp only[ly]
   refine tk 2 ?_ (hS:=by first|assumption|exact Below.drew ‹_›|exact LB.drew ‹_›);try simp only[ly]
   refine rd 1 (λK hK=>?_);go_simp;refine(FL.out _).mono ?_;rintro e wz⟨rfl,hbz⟩;have Dz:=f7 (W0:=w) hbz (by first|assumption|exact Below.drew ‹_›|exact LB.drew ‹_›);have Pz:=LB.keep (n:=w.heap.size) hbz (by first|assumption|exact Below.drew ‹_›|exact LB.drew ‹_›);clear hbz;try go_wp2_with fail
   clear hHeld;refine hK.out _ _ (LB.cells (n:=w.heap.size) (by first|assumption|exact Below.drew ‹_›|exact LB.drew ‹_›)) (λhHeld=>?_);clear hK K;try simp only[ly]
   refine rd 3 (λK hK=>?_);go_simp;refine(TL.out _).mono ?_;rintro e wz⟨rfl,hbz⟩;have Dz:=f7 (W0:=w) hbz (by first|assumption|exact Below.drew ‹_›|exact LB.drew ‹_›);have Pz:=LB.keep (n:=w.heap.size) hbz (by first|assumption|exact Below.drew ‹_›|exact LB.drew ‹_›);clear hbz;try go_wp2_with fail
   clear hHeld;refine hK.out _ _ (LB.cells (n:=w.heap.size) (by first|assumption|exact Below.drew ‹_›|exact LB.drew ‹_›)) (λhHeld=>?_);clear hK K;try simp only[ly]
   refine tk 4 ?_ (hS:=by first|assumption|exact Below.drew ‹_›|exact LB.drew ‹_›);try simp only[ly]
   refine tk 5 ?_ (hS:=by first|assumption|exact Below.drew ‹_›|exact LB.drew ‹_›);try simp only[ly]
   refine tk 6 ?_ (hS:=by first|assumption|exact Below.drew ‹_›|exact LB.drew ‹_›);try simp only[ly]
   refine tk 7 ?_ (hS:=by first|assumption|exact Below.drew ‹_›|exact LB.drew ‹_›);try simp only[ly]
   refine rd 8 (λK hK=>?_);go_simp;refine(CO.out _ (by first|assumption|exact Below.drew ‹_›|exact LB.drew ‹_›) (by first|assumption|exact Below.drew ‹_›|exact LB.drew ‹_›)).mono ?_;rintro e wz⟨rfl,hbz⟩;have Dz:=f7 (W0:=w) hbz (by first|assumption|exact Below.drew ‹_›|exact LB.drew ‹_›);have Pz:=LB.keep (n:=w.heap.size) hbz (by first|assumption|exact Below.drew ‹_›|exact LB.drew ‹_›);clear hbz;try go_wp2_with fail
   clear hHeld;refine hK.out _ _ (LB.cells (n:=w.heap.size) (by first|assumption|exact Below.drew ‹_›|exact LB.drew ‹_›)) (λhHeld=>?_);clear hK K;try simp only[ly]
   refine tk 9 ?_ (hS:=by first|assumption|exact Below.drew ‹_›|exact LB.drew ‹_›);try simp only[ly]
   refine wpAnyH_done (by kernel_rfl) ?_ _;cases x3
   ·go_wp2_with fail;go_ret;exact⟨by rw[HV.out];rfl,by first|assumption|exact Below.drew ‹_›|exact LB.drew ‹_›⟩
   ·go_wp2_with fail;go_ret;exact⟨by rw[HV.out];rfl,by first|assumption|exact Below.drew ‹_›|exact LB.drew ‹_›⟩
  ·have HV:Hid (res=5):=by show _=_;rw[HR1.out];rfl
   clear HR1;go_wp2_with fail;refine wp_region_held_drew (S:=(λw'=>w'.cell? ⟨w.heap.size,0,none⟩=some (.slice A ds.length cap)/\w'.cell? ⟨w.heap.size,1,none⟩=some (.slice (some ⟨b,o,none⟩) ls.length d8)/\w'.cell? ⟨w.heap.size+1,0,none⟩=some (.int .i64 la)/\w'.cell? ⟨w.heap.size+1,1,none⟩=some (.int .i64 lp)/\w'.cell? ⟨w.heap.size+1,2,none⟩=some (.int .i64 lb)/\w'.cell? ⟨w.heap.size+1,3,none⟩=some (.int .i64 lq))) (by kernel_rfl) (LB.cells (n:=w.heap.size) (by first|assumption|exact Below.drew ‹_›|exact LB.drew ‹_›)) (λhHeld=>?_);refine tk 0 ?_ (hS:=by first|assumption|exact Below.drew ‹_›|exact LB.drew ‹_›);try simp only[ly]
   refine tk 2 ?_ (hS:=by first|assumption|exact Below.drew ‹_›|exact LB.drew ‹_›);try simp only[ly]
   refine rd 1 (λK hK=>?_);go_simp;refine(FL.out _).mono ?_;rintro e wz⟨rfl,hbz⟩;have Dz:=f7 (W0:=w) hbz (by first|assumption|exact Below.drew ‹_›|exact LB.drew ‹_›);have Pz:=LB.keep (n:=w.heap.size) hbz (by first|assumption|exact Below.drew ‹_›|exact LB.drew ‹_›);clear hbz;try go_wp2_with fail
   clear hHeld;refine hK.out _ _ (LB.cells (n:=w.heap.size) (by first|assumption|exact Below.drew ‹_›|exact LB.drew ‹_›)) (λhHeld=>?_);clear hK K;try simp only[ly]
   refine rd 3 (λK hK=>?_);go_simp;refine(TL.out _).mono ?_;rintro e wz⟨rfl,hbz⟩;have Dz:=f7 (W0:=w) hbz (by first|assumption|exact Below.drew ‹_›|exact LB.drew ‹_›);have Pz:=LB.keep (n:=w.heap.size) hbz (by first|assumption|exact Below.drew ‹_›|exact LB.drew ‹_›);clear hbz;try go_wp2_with fail
   clear hHeld;refine hK.out _ _ (LB.cells (n:=w.heap.size) (by first|assumption|exact Below.drew ‹_›|exact LB.drew ‹_›)) (λhHeld=>?_);clear hK K;try simp only[ly]
   refine tk 4 ?_ (hS:=by first|assumption|exact Below.drew ‹_›|exact LB.drew ‹_›);try simp only[ly]
   refine tk 5 ?_ (hS:=by first|assumption|exact Below.drew ‹_›|exact LB.drew ‹_›);try simp only[ly]
   refine' wpAnyH_take (i:=6) (v:=undef) rfl (by kernel_rfl) (by kernel_rfl) (by kernel_rfl) (λ_ _ _ h=>h) (Or.inr ⟨by rfl,rfl⟩) (by first|assumption|exact Below.drew ‹_›|exact LB.drew ‹_›) ?gr31;try simp only[ly]
   refine' wpAnyH_take (i:=7) (v:=undef) rfl (by kernel_rfl) (by kernel_rfl) (by kernel_rfl) (λ_ _ _ h=>h) (Or.inr ⟨by rfl,rfl⟩) (by first|assumption|exact Below.drew ‹_›|exact LB.drew ‹_›) ?gr32;try simp only[ly]
   refine' wpAnyH_take (i:=8) (v:=undef) rfl (by kernel_rfl) (by kernel_rfl) (by kernel_rfl) (λ_ _ _ h=>h) (Or.inr ⟨by rfl,rfl⟩) (by first|assumption|exact Below.drew ‹_›|exact LB.drew ‹_›) ?gr33;try simp only[ly]
   refine tk 9 ?_ (hS:=by first|assumption|exact Below.drew ‹_›|exact LB.drew ‹_›);try simp only[ly]
   refine wpAnyH_done (by kernel_rfl) ?_ _;go_wp2_with fail;go_ret;exact⟨by rw[HV.out];rfl,by first|assumption|exact Below.drew ‹_›|exact LB.drew ‹_›⟩
theorem jI(A:Option Addr)(n cap:Nat)(bs:List Int)(x:Int)(b9:Nat)(w:World)(hB:Hid (SlAt b9 w 1 IsI (.slice A n cap) bs)) :
  Calls prog 26 #[.slice A n cap,.int .i64 x] w λe w'=>∃j:Int,e=.returned (.int .i64 j)/\Hid (decide (0<=j)=bs.any (λy=>y == x))/\w'=w:=by
 obtain⟨A',d8,e,_,h1,h2,_⟩:=id hB.out;cases e;unfold maxLen at h2;generalize hres:bs.any (λy=>y == x)=res;have HR:Hid (bs.any (λy=>y == x)=res):=hres;clear hres;go_enter func26,ntmps26;go_wp2_with fail
 go_loop [8] (λi=>∃k:Nat,i=.int .i64 (k:Int)/\k<=bs.length/\Hid ((bs.take k).any (λy=>y == x)=false)) (λi=>bs.length-(intOf i).toNat)
 case atStart=>exact⟨0,rfl,by omega,rfl⟩
 case round =>
  obtain⟨k,rfl,hk,hno⟩:=hrel;by_cases hlt:k<bs.length
  ·obtain⟨y,hxk⟩:∃y,bs[k]?=some y:=⟨_,List.getElem?_eq_getElem hlt⟩;obtain⟨b,o,rfl,_,hcell⟩:=Ints.at hB.out hxk;have c0:=hcell k y hxk;have HT:Hid ((bs.take (k+1)).any (λz=>z == x)=((bs.take k).any (λz=>z == x)||(y == x))):=kZ hxk;have HM:Hid (y == x->bs.any (λy=>y == x)=true):=λh=>List.any_eq_true.2 ⟨y,List.mem_of_getElem? hxk,h⟩;have k1:(0:Int)<=(k:Int):=by omega
   have k2:(k:Int)<(bs.length:Int):=by omega
   clear hxk hcell hB;cases hv:(y == x)
   ·have hv2:(x == y)=false:=by rw[BEq.comm];exact hv
    have HV:Hid ((bs.take (k+1)).any (λz=>z == x)=false):=by
     show _=_;rw[HT.out,hno.out,hv];rfl
    clear HT HM hno hv;go_wp2_with fail
    go_round
    case rel=>exact⟨k+1,by go_num,by omega,HV⟩
    case measure=>simp[intOf];omega
   ·have hv2:(x == y)=true:=by rw[BEq.comm];exact hv
    have HV:Hid (res=true):=by
     show _=_;rw[<- HR.out,HM.out hv]
    clear HT HM hno hv;go_wp2_with fail;go_ret;exact⟨_,rfl,(by show _=_;rw[HV.out];simp),rfl⟩
  ·have HV:Hid (res=false):=by
    show _=_;rw[<- HR.out];have:=hno.out;rw[show k=bs.length by omega,List.take_length]at this;exact this
   go_wp2_with fail;go_ret;exact⟨_,rfl,(by show _=_;rw[HV.out];simp),rfl⟩
theorem dG(A:Option Addr)(n cap:Nat)(bs:List Int)(x:Int)(b9:Nat)(w:World)(hB:Hid (SlAt b9 w 1 IsI (.slice A n cap) bs)) :
  Calls prog 63 #[.slice A n cap,.int .i64 x] w λe w'=>e=.returned (.bool (bs.any (λy=>y == x)))/\w'=w:=by
 have IX:Hid (∀w',w'=w->Calls prog 26 #[.slice A n cap,.int .i64 x] w' λe w'=>∃j:Int,e=.returned (.int .i64 j)/\Hid (decide (0<=j)=bs.any (λy=>y == x))/\w'=w):=λw' h=>by subst h;exact jI A n cap bs x b9 w' hB
 clear hB;generalize bs.any (λy=>y == x)=v at *;go_enter func63,ntmps63;go_wp2_with fail;refine(IX.out _ rfl).mono ?_;rintro e w2⟨j,rfl,hj,rfl⟩;clear IX;go_wp2_with fail;go_ret;exact⟨by rw[<- hj.out];rfl,rfl⟩
theorem backsFrom_vals(bs:List Int)(ad:Int):∀(m k:Nat),bs.length-k<=m->j8 bs ad k=0\/j8 bs ad k=1
 | 0,k,h=>by rw[dQ (by omega)];simp
 | m+1,k,h=>by
   by_cases hk:k<bs.length
   ·rw[fG (List.getElem?_eq_getElem hk)]
    split
    ·exact backsFrom_vals bs ad m (k+1) (by omega)
    ·simp
   ·rw[dQ (by omega)];simp
def backsF(k ad:Int)(bs:List Int):Bool:=(decide (0<bs.length) ==(k == 5))&&decide (j8 bs ad 0=0)
theorem qB(nm:ByteArray)(k ad:Int)(pl:Nat)(A:Option Addr)(cap:Nat)(bs:List Int)(vr vt:Value)(res:Bool)(w:World)(hB:Hid (SlAt w.heap.size w 1 IsI (.slice A bs.length cap) bs))(hcap:bs.length<=cap)(hmax:cap<=maxLen)(hne:(decide (0<bs.length) ==(k == 5))=true)(HR:Hid (decide (j8 bs ad 0=0)=res)) :
  Calls prog 115 #[F9 nm k ad pl (.slice A bs.length cap) vr vt] w λe w'=>e=.returned (.bool res)/\Below w.heap.size w w':=by
 unfold maxLen at hmax;have D0:=Below.alN (Below.refl w.heap.size w) (.cells #[.string nm,.int .i64 k,.int .i64 ad,.int .u8 (pl:Int),.slice A bs.length cap,vr,vt] 56);have V0:=aL w (.string nm) (.int .i64 k) (.int .i64 ad) (.int .u8 (pl:Int)) (.slice A bs.length cap) vr vt 56;have BW:=SlAt.below hB.out D0 (λ_ _ _ h=>h);have hne2:(decide ((0:Int)<(bs.length:Int)) ==(k == 5))=true:=by
  rw[<- hne]
  congr 1
  rw[decide_eq_decide];omega
 have hne3:(decide (0<bs.length))=(k == 5):=eq_of_beq hne;have hne4:(decide ((0:Int)<(bs.length:Int)))=(k == 5):=eq_of_beq hne2;cases h5:(k == 5);all_goals
  rw[h5]at hne3 hne4;clear hne hne2;go_enter func115,ntmps115;go_wp2_with fail
  go_loop [16] (λi=>∃j:Nat,i=.int .i64 (j:Int)/\j<=bs.length/\Hid (decide (j8 bs ad j=0)=res)) (λi=>bs.length-(intOf i).toNat)
  case atStart=>exact⟨0,rfl,by omega,HR⟩
  case round =>
   obtain⟨j,rfl,hj,hl⟩:=hrel;by_cases hlt:j<bs.length
   ·obtain⟨x,hxk⟩:∃x,bs[j]?=some x:=⟨_,List.getElem?_eq_getElem hlt⟩;obtain⟨b,o,rfl,_,hcell⟩:=Ints.at BW hxk;have c0:=hcell j x hxk;have HT:Hid (j8 bs ad j=if(decide (0<=x)&&decide (x<=15))&&!(x == ad)&&!((bs.take j).any (λy=>y == x))then j8 bs ad (j+1)else 1):=fG hxk;have IA:Hid (∀w,Calls prog 165 #[.int .i64 x] w λe w'=>e=.returned (.bool (addrB x))/\w'=w):=λw=>lu x w;have CO:Hid (Calls prog 63 #[.slice (some ⟨b,o,none⟩) j cap,.int .i64 x] (w.alloc (.cells #[.string nm,.int .i64 k,.int .i64 ad,.int .u8 (pl:Int),.slice (some ⟨b,o,none⟩) bs.length cap,vr,vt] 56)) λe w'=>e=.returned (.bool ((bs.take j).any (λy=>y == x)))/\w'=(w.alloc (.cells #[.string nm,.int .i64 k,.int .i64 ad,.int .u8 (pl:Int),.slice (some ⟨b,o,none⟩) bs.length cap,vr,vt] 56))):=dG _ j cap (bs.take j) x w.heap.size _ (SlAt.take BW j (by omega));have ea:(decide (0<=x)&&decide (x<=15))=addrB x:=by
     unfold addrB
     congr 1
     rw[decide_eq_decide];omega
    rw[ea]at HT;have k1:(0:Int)<=(j:Int):=by omega
    have k2:(j:Int)<(bs.length:Int):=by omega
    have k3:(j:Int)<=(cap:Int):=by omega
    obtain⟨_,q0,q1,q2,q3,q4,q5,q6⟩:=id V0;clear hxk hcell hB ea BW;generalize addrB x=x0 at *;generalize (bs.take j).any (λy=>y == x)=x2 at *;cases x0
    ·have HV:Hid (res=false):=by
      show _=_;rw[<- hl.out,HT.out];simp
     clear HT hl;go_wp2_with (go_at_call 165;refine(IA.out _).mono ?_;rintro e w'⟨rfl,rfl⟩);go_ret;exact⟨by rw[HV.out];rfl,D0⟩
    ·cases x1:(x == ad)
     ·cases x2
      ·have HV:Hid (decide (j8 bs ad (j+1)=0)=res):=by
        show _=_;rw[<- hl.out,HT.out,x1];simp
       clear HT hl;go_wp2_with (first|(go_at_call 165;refine(IA.out _).mono ?_;rintro e w'⟨rfl,rfl⟩)|(go_at_call 63;refine CO.out.mono ?_;rintro e w'⟨rfl,rfl⟩))
       go_round
       case rel=>exact⟨j+1,by go_num,by omega,HV⟩
       case measure=>simp[intOf];omega
      ·have HV:Hid (res=false):=by
        show _=_;rw[<- hl.out,HT.out,x1];simp
       clear HT hl;go_wp2_with (first|(go_at_call 165;refine(IA.out _).mono ?_;rintro e w'⟨rfl,rfl⟩)|(go_at_call 63;refine CO.out.mono ?_;rintro e w'⟨rfl,rfl⟩));go_ret;exact⟨by rw[HV.out];rfl,D0⟩
     ·have HV:Hid (res=false):=by
       show _=_;rw[<- hl.out,HT.out,x1];simp
      clear HT hl;go_wp2_with (go_at_call 165;refine(IA.out _).mono ?_;rintro e w'⟨rfl,rfl⟩);go_ret;exact⟨by rw[HV.out];rfl,D0⟩
   ·have HV:Hid (res=true):=by
     show _=_;rw[<- hl.out,dQ (by omega)];rfl
    go_wp2_with fail;go_ret;exact⟨by rw[HV.out];rfl,D0⟩
theorem qC(nm:ByteArray)(k ad:Int)(pl:Nat)(A:Option Addr)(cap:Nat)(bs:List Int)(vr vt:Value)(w:World)(hB:SlAt w.heap.size w 1 IsI (.slice A bs.length cap) bs)(hcap:bs.length<=cap)(hmax:cap<=maxLen) :
  Calls prog 115 #[F9 nm k ad pl (.slice A bs.length cap) vr vt] w λe w'=>e=.returned (.bool (backsF k ad bs))/\Below w.heap.size w w':=by
 unfold backsF;cases hne:(decide (0<bs.length) ==(k == 5))
 ·rw[Bool.false_and];have D0:=Below.alN (Below.refl w.heap.size w) (.cells #[.string nm,.int .i64 k,.int .i64 ad,.int .u8 (pl:Int),.slice A bs.length cap,vr,vt] 56);have e1:decide (0<bs.length)=decide ((0:Int)<(bs.length:Int)):=by
   rw[decide_eq_decide];omega
  rw[e1]at hne;clear e1 hB hcap hmax;cases h5:(k == 5) <;> cases h0:decide ((0:Int)<(bs.length:Int))
  ·rw[h5,h0]at hne;cases hne
  ·clear hne;have n0:0<bs.length:=by simpa using h0
   go_enter func115,ntmps115;go_wp2_with fail;go_ret;exact⟨rfl,D0⟩
  ·clear hne;have n0:¬ 0<bs.length:=by simpa using h0
   go_enter func115,ntmps115;go_wp2_with fail;go_ret;exact⟨rfl,D0⟩
  ·rw[h5,h0]at hne;cases hne
 ·rw[Bool.true_and];exact qB nm k ad pl A cap bs vr vt _ w hB hcap hmax hne rfl
def jJ(k ad:Int)(pl:Nat)(bs:List Int)(nr nt:Nat)(c:Int):Int :=
 if(portsV k == 0)||!addrF k ad||!poolF k pl then 1 else if 3<bs.length then 2 else if !backsF k ad bs||!listsF k nr nt then 1 else if 8<nr then 2 else c
theorem qD(k ad:Int)(pl:Nat)(bs:List Int)(nr nt:Nat)(c:Int):jJ k ad pl bs nr nt c=P9 k ad pl bs nr nt c:=by
 have ea:addrB ad=(decide (0<=ad)&&decide (ad<=15)):=by
  unfold addrB
  congr 1
  rw[decide_eq_decide];omega
 have eb:decide (j8 bs ad 0=0)=!decide (j8 bs ad 0=1):=by
  rcases backsFrom_vals bs ad bs.length 0 (by omega)with h|h <;> rw[h] <;> rfl
 have ep:(!((pl:Int) == 0))=decide (0<pl):=by
  rw[Bool.eq_iff_iff];simp;omega
 have el:decide (0<bs.length)=!decide (bs.length=0):=by
  rw[Bool.eq_iff_iff];simp only[decide_eq_true_eq,Bool.not_eq_true',decide_eq_false_iff_not];omega
 have er:decide (nr=0)=!decide (0<nr):=by
  rw[Bool.eq_iff_iff];simp
 have et:decide (nt=0)=!decide (0<nt):=by
  rw[Bool.eq_iff_iff];simp
 unfold jJ P9 addrF poolF backsF listsF;rw[ea,eb,ep,el,er,et];have ek:(portsV k == 0)=!(decide (1<=k)&&decide (k<=5)):=by
  unfold portsV;rw[Bool.eq_iff_iff];simp only[beq_iff_eq,Bool.not_eq_true',Bool.and_eq_false_iff,decide_eq_false_iff_not]
  split
  ·omega
  ·split
   ·omega
   ·split <;> omega
 rw[ek];cases hk:(decide (1<=k)&&decide (k<=5))
 ·simp
 ·have hk':1<=k/\k<=5:=by simpa using hk
  generalize (decide (0<=ad)&&decide (ad<=15))=x1;generalize decide (0<pl)=x2;generalize decide (bs.length=0)=x3;generalize decide (0<nr)=x5;generalize decide (0<nt)=x6;generalize (ad == 0)=x7;by_cases h4:j8 bs ad 0=1;all_goals
   simp only[h4,decide_true,decide_false,if_true,if_false];have hkk:k=1\/k=2\/k=3\/k=4\/k=5:=by omega
   rcases hkk with rfl|rfl|rfl|rfl|rfl <;> simp only[hasAddr] <;> cases x1 <;> cases x2 <;> cases x3 <;> cases x5 <;> cases x6 <;> cases x7 <;> simp
def devTold(ahead:List Dv)(d:Dv):Int:=if nameOk d.name then(if ahead.any (λx=>x.name.toList == d.name.toList)then 5 else devC d)else 3
theorem qE(d:Dv)(vb vr vt:Value)(A:Option Addr)(n cap:Nat)(ahead:List Dv)(w:World)(hA:Devs w.heap.size w (.slice A n cap) ahead)(hb:SlAt w.heap.size w 1 IsI vb d.backs)(hr:SlAt w.heap.size w 5 A9 vr d.rules)(ht:SlAt w.heap.size w 3 C7 vt d.routes) :
  Calls prog 65 #[F9 d.name d.kind d.addr d.pool vb vr vt,.slice A n cap] w λe w'=>e=.returned (.int .i64 (devTold ahead d))/\Below w.heap.size w w':=by
 have FC:Hid (∀W,Below w.heap.size w W->Calls prog 118 #[vt] W λe w'=>e=.returned (.int .i64 (checkV (d.routes.map rtOf)))/\Below W.heap.size W w'):=λW h=>mg W (fL (SlAt.mono (SlAt.below ht h (λ_ _ _ h=>h)) h.size (λ_ _ _ h=>h)));have FI:Hid (∀W,Below w.heap.size w W->Calls prog 112 #[.slice A n cap,.string d.name] W λe w'=>e=.returned (.tuple #[.int .i64 (if 0<=findFrom ahead d.name.toList 0 then findFrom ahead d.name.toList 0 else 0),.bool (ahead.any (λx=>x.name.toList == d.name.toList))])/\Below W.heap.size W w'):=λW h=>by
  have:=ut A n cap ahead d.name W ((hA.below h).mono h.size);rw[uo]at this;exact this
 have hb0:=hb;obtain⟨Ab,cb,rfl,_,b1,b2,_⟩:=hb;obtain⟨Ar,cr,rfl,_,r1,r2,_⟩:=hr;obtain⟨At,ct,rfl,_,t1,t2,_⟩:=ht;have BF:Hid (∀W,Below w.heap.size w W->Calls prog 115 #[F9 d.name d.kind d.addr d.pool (.slice Ab d.backs.length cb) (.slice Ar d.rules.length cr) (.slice At d.routes.length ct)] W λe w'=>e=.returned (.bool (backsF d.kind d.addr d.backs))/\Below W.heap.size W w'):=λW h=>qC _ _ _ _ _ _ _ _ _ W (SlAt.mono (SlAt.below hb0 h (λ_ _ _ h=>h)) h.size (λ_ _ _ h=>h)) b1 b2;have NM:Hid (∀w,Calls prog 111 #[.string d.name] w λe w'=>e=.returned (.bool (nameOk d.name))/\w'=w):=λw=>um d.name w;have PO:Hid (∀w,Calls prog 54 #[.int .i64 d.kind] w λe w'=>e=.returned (.int .i64 (portsV d.kind))/\w'=w):=λw=>fM d.kind w;have AF:Hid (∀W,Calls prog 113 #[F9 d.name d.kind d.addr d.pool (.slice Ab d.backs.length cb) (.slice Ar d.rules.length cr) (.slice At d.routes.length ct)] W λe w'=>e=.returned (.bool (addrF d.kind d.addr))/\Below W.heap.size W w'):=λW=>uh _ _ _ _ _ _ _ W;have PF:Hid (∀W,Calls prog 114 #[F9 d.name d.kind d.addr d.pool (.slice Ab d.backs.length cb) (.slice Ar d.rules.length cr) (.slice At d.routes.length ct)] W λe w'=>e=.returned (.bool (poolF d.kind d.pool))/\Below W.heap.size W w'):=λW=>ui _ _ _ _ _ _ _ W;have LF:Hid (∀W,Calls prog 116 #[F9 d.name d.kind d.addr d.pool (.slice Ab d.backs.length cb) (.slice Ar d.rules.length cr) (.slice At d.routes.length ct)] W λe w'=>e=.returned (.bool (listsF d.kind d.rules.length d.routes.length))/\Below W.heap.size W w'):=λW=>uj _ _ _ _ _ _ _ _ _ _ _ W;have AC:Hid (∀w,Calls prog 117 #[.slice Ar d.rules.length cr] w λe w'=>e=.returned (.int .i64 (if 8<d.rules.length then 2 else 0))/\w'=w):=λw=>uk _ _ _ w;generalize hres:devTold ahead d=res;have HR:Hid (res=if nameOk d.name then(if ahead.any (λx=>x.name.toList == d.name.toList)then 5 else if(portsV d.kind == 0)||!addrF d.kind d.addr||!poolF d.kind d.pool then 1 else if 3<d.backs.length then 2 else if !backsF d.kind d.addr d.backs||!listsF d.kind d.rules.length d.routes.length then 1 else if 8<d.rules.length then 2 else checkV (d.routes.map rtOf))else 3):=by
  show _=_;rw[<- hres];unfold devTold devC;rw[<- qD];rfl
 clear hres hA hb0;have D0:=Below.alN (Below.refl w.heap.size w) (.cells #[.string d.name,.int .i64 d.kind,.int .i64 d.addr,.int .u8 (d.pool:Int),.slice Ab d.backs.length cb,.slice Ar d.rules.length cr,.slice At d.routes.length ct] 56);have V0:=aL w (.string d.name) (.int .i64 d.kind) (.int .i64 d.addr) (.int .u8 (d.pool:Int)) (.slice Ab d.backs.length cb) (.slice Ar d.rules.length cr) (.slice At d.routes.length ct) 56;generalize nameOk d.name=x0 at *;generalize ahead.any (λx=>x.name.toList == d.name.toList)=x1 at *;generalize (if 0<=findFrom ahead d.name.toList 0 then findFrom ahead d.name.toList 0 else 0)=fi at *;generalize portsV d.kind=pk at *;generalize addrF d.kind d.addr=x3 at *;generalize poolF d.kind d.pool=x4 at *;generalize backsF d.kind d.addr d.backs=x5 at *;generalize listsF d.kind d.rules.length d.routes.length=x6 at *;generalize checkV (d.routes.map rtOf)=cv at *;generalize d.backs.length=nb at *;generalize d.rules.length=nr at *;generalize d.routes.length=nt at *;generalize d.name=nm at *;generalize d.kind=kd at *;generalize d.addr=ad at *;generalize d.pool=pl at *;go_enter func65,ntmps65;go_wp2_with fail;refine(NM.out _).mono ?_;rintro e w'⟨rfl,rfl⟩;cases x0
 ·go_wp2_with fail;go_ret;exact⟨by rw[HR.out];rfl,D0⟩
 go_wp2_with fail;refine(FI.out _ D0).mono ?_;rintro e w1⟨rfl,hb1⟩;have D1:=f7 hb1 D0;have V1:=V0.below hb1 V0.1;clear hb1 D0 V0 FI NM;obtain⟨l1,q0,q1,q2,q3,q4,q5,q6⟩:=id V1;cases x1
 ·go_wp2_with fail;refine(PO.out _).mono ?_;rintro e w2⟨rfl,rfl⟩;cases hpk:(pk == 0)
  ·go_wp2_with fail;refine(AF.out _).mono ?_;rintro e w3⟨rfl,hb3⟩;have D3:=f7 hb3 D1;have V3:=V1.below hb3 V1.1;clear hb3 D1 V1 AF PO q0 q1 q2 q3 q4 q5 q6;obtain⟨l3,q0,q1,q2,q3,q4,q5,q6⟩:=id V3;cases x3
   ·go_wp2_with fail;go_ret;exact⟨by rw[HR.out,hpk];rfl,D3⟩
   go_wp2_with fail;refine(PF.out _).mono ?_;rintro e w4⟨rfl,hb4⟩;have D4:=f7 hb4 D3;have V4:=V3.below hb4 V3.1;clear hb4 D3 V3 PF q0 q1 q2 q3 q4 q5 q6;obtain⟨l4,q0,q1,q2,q3,q4,q5,q6⟩:=id V4;cases x4
   ·go_wp2_with fail;go_ret;exact⟨by rw[HR.out,hpk];rfl,D4⟩
   by_cases n3:3<nb
   ·have u3:decide ((3:Int)<(nb:Int))=true:=by simp;omega
    have HV:Hid (res=2):=by show _=_;rw[HR.out,hpk];simp[n3]
    go_wp2_with fail;go_ret;exact⟨by rw[HV.out];rfl,D4⟩
   have u3:decide ((3:Int)<(nb:Int))=false:=by simp;omega
   have HR2:Hid (res=if !x5||!x6 then 1 else if 8<nr then 2 else cv):=by show _=_;rw[HR.out,hpk];simp[n3]
   clear HR hpk;go_wp2_with fail;refine(BF.out _ D4).mono ?_;rintro e w5⟨rfl,hb5⟩;have D5:=f7 hb5 D4;have V5:=V4.below hb5 V4.1;clear hb5 D4 V4 BF q0 q1 q2 q3 q4 q5 q6;obtain⟨l5,q0,q1,q2,q3,q4,q5,q6⟩:=id V5;cases x5
   ·go_wp2_with fail;go_ret;exact⟨by rw[HR2.out];rfl,D5⟩
   go_wp2_with fail;refine(LF.out _).mono ?_;rintro e w6⟨rfl,hb6⟩;have D6:=f7 hb6 D5;have V6:=V5.below hb6 V5.1;clear hb6 D5 V5 LF q0 q1 q2 q3 q4 q5 q6;obtain⟨l6,q0,q1,q2,q3,q4,q5,q6⟩:=id V6;cases x6
   ·go_wp2_with fail;go_ret;exact⟨by rw[HR2.out];rfl,D6⟩
   by_cases h8:8<nr
   ·have HV:Hid (res=2):=by show _=_;rw[HR2.out];simp[h8]
    rw[if_pos h8]at AC;go_wp2_with fail;refine(AC.out _).mono ?_;rintro e w7⟨rfl,rfl⟩;go_wp2_with fail;go_ret;exact⟨by rw[HV.out];rfl,D6⟩
   ·have HV:Hid (res=cv):=by show _=_;rw[HR2.out];simp[h8]
    rw[if_neg h8]at AC;go_wp2_with fail;refine(AC.out _).mono ?_;rintro e w7⟨rfl,rfl⟩;go_wp2_with fail;refine(FC.out _ D6).mono ?_;rintro e w8⟨rfl,hb8⟩;have D8:=f7 hb8 D6;go_wp2_with fail;go_ret;exact⟨by rw[HV.out];rfl,D8⟩
  ·go_wp2_with fail;go_ret;exact⟨by rw[HR.out,hpk];rfl,D1⟩
 ·go_wp2_with fail;go_ret;exact⟨by rw[HR.out];rfl,D1⟩
theorem Seven.drew{w:World}{n:Nat}{a b c d e f g:Value}(h:Seven w n a b c d e f g):Seven w.drew n a b c d e f g:=h
theorem qF(A B:Option Addr)(cap d8:Nat)(ds:List Dv)(ls:List Lk)(res:Int)(w:World)(hD:Hid (Devs w.heap.size w (.slice A ds.length cap) ds))(hL:Hid (Links w.heap.size w (.slice B ls.length d8) ls))(h10:ds.length<=10)(h15:ls.length<=15)(HR:Hid (res=if m9 ds 0=0 then o9 ds ls 0 else m9 ds 0)) :
  Calls prog 29 #[.agg #[.slice A ds.length cap,.slice B ls.length d8]] w λe w'=>e=.returned (.int .i64 res)/\Below w.heap.size w w':=by
 obtain⟨_,hc,hm⟩:=hD.out.len;obtain⟨_,hc',hm'⟩:=hL.out.len;unfold maxLen at hm hm';have t10:decide ((10:Int)<(ds.length:Int))=false:=by simp;omega
 have t15:decide ((15:Int)<(ls.length:Int))=false:=by simp;omega
 have D0:=Below.alN (Below.refl w.heap.size w) (.cells #[.slice A ds.length cap,.slice B ls.length d8] 25);have B0:=T7 w (.slice A ds.length cap) (.slice B ls.length d8) 25;go_enter func29,ntmps29;go_wp2_with fail;go_loopw[21] (λi wr=>∃k:Nat,i=.int .i64 (k:Int)/\k<=ds.length/\Below w.heap.size w wr/\Box2 wr w.heap.size (.slice A ds.length cap) (.slice B ls.length d8)/\Hid (m9 ds 0=m9 ds k)) (λi _=>ds.length-(intOf i).toNat)
 case atStart=>exact⟨0,rfl,by omega,D0,B0,rfl⟩
 case round =>
  clear D0 B0;obtain⟨k,rfl,hk,D1,B1,hl⟩:=hrel;by_cases hlt:k<ds.length
  ·obtain⟨d,hxk⟩:∃d,ds[k]?=some d:=⟨_,List.getElem?_eq_getElem hlt⟩;obtain⟨b,o,vb,vr,vt,rfl,hb,z1,z2,z3,c0,c1,c2,c3,c4,c5,c6⟩:=(hD.out.below D1).at hxk;obtain⟨Ab,cb,rfl,_,_,_,_⟩:=z1;obtain⟨Ar,cr,rfl,_,_,_,_⟩:=z2;obtain⟨At,ct,rfl,_,_,_,_⟩:=z3;have HF:Hid (m9 ds k=if devTold (ds.take k) d=0 then m9 ds (k+1)else devTold (ds.take k) d):=cX hxk;have CD:Hid (∀W,Below w.heap.size w W->Calls prog 65 #[F9 d.name d.kind d.addr d.pool (.slice Ab d.backs.length cb) (.slice Ar d.rules.length cr) (.slice At d.routes.length ct),.slice (some ⟨b,o,none⟩) k cap] W λe w'=>e=.returned (.int .i64 (devTold (ds.take k) d))/\Below W.heap.size W w'):=λW h=>by
    have hd:=hD.out.below h;obtain⟨b',o',vb',vr',vt',e1,_,s1,s2,s3,q0,q1,q2,q3,q4,q5,q6⟩:=hd.at hxk;cases e1;have g4:=(D1.cell (p:=⟨b,o+k*7+4,none⟩) hb).symm.trans c4;have g5:=(D1.cell (p:=⟨b,o+k*7+5,none⟩) hb).symm.trans c5;have g6:=(D1.cell (p:=⟨b,o+k*7+6,none⟩) hb).symm.trans c6;have f4:=(h.cell (p:=⟨b,o+k*7+4,none⟩) hb).symm.trans q4;have f5:=(h.cell (p:=⟨b,o+k*7+5,none⟩) hb).symm.trans q5;have f6:=(h.cell (p:=⟨b,o+k*7+6,none⟩) hb).symm.trans q6;obtain rfl:=Option.some.inj (g4.symm.trans f4);obtain rfl:=Option.some.inj (g5.symm.trans f5);obtain rfl:=Option.some.inj (g6.symm.trans f6);exact qE d _ _ _ _ k cap (ds.take k) W (Devs.mono (SlAt.take hd k (by omega)) h.size) (SlAt.mono s1 h.size (λ_ _ _ h=>h)) (SlAt.mono s2 h.size (λ_ _ _ h=>h)) (SlAt.mono s3 h.size (λ_ _ _ h=>h))
   have k1:(0:Int)<=(k:Int):=by omega
   have k2:(k:Int)<(ds.length:Int):=by omega
   have k3:(k:Int)<=(cap:Int):=by omega
   have lw:=D1.size;clear hxk;generalize devTold (ds.take k) d=dv at *;generalize d.backs.length=nb at *;generalize d.rules.length=nr at *;generalize d.routes.length=nt at *;generalize d.name=nm at *;generalize d.kind=kd at *;generalize d.addr=ad at *;generalize d.pool=pl at *;have D2:=Below.alN D1 (.cells #[.string nm,.int .i64 kd,.int .i64 ad,.int .u8 (pl:Int),.slice Ab nb cb,.slice Ar nr cr,.slice At nt ct] 56);have B2:=B1.alloc (.cells #[.string nm,.int .i64 kd,.int .i64 ad,.int .u8 (pl:Int),.slice Ab nb cb,.slice Ar nr cr,.slice At nt ct] 56);have V2:=aL wr (.string nm) (.int .i64 kd) (.int .i64 ad) (.int .u8 (pl:Int)) (.slice Ab nb cb) (.slice Ar nr cr) (.slice At nt ct) 56;have D3:=D2.drew;obtain⟨_,f0,f1,_⟩:=id B2;obtain⟨_,v0,v1,v2,v3,v4,v5,v6⟩:=id V2;clear hD hL;go_wp2_with fail;go_region_held3 (λw'=>w'.cell? ⟨w.heap.size,0,none⟩=some (.slice (some ⟨b,o,none⟩) ds.length cap)/\w'.cell? ⟨wr.heap.size,0,none⟩=some (.string nm)/\w'.cell? ⟨wr.heap.size,1,none⟩=some (.int .i64 kd)/\w'.cell? ⟨wr.heap.size,2,none⟩=some (.int .i64 ad)/\w'.cell? ⟨wr.heap.size,3,none⟩=some (.int .u8 (pl:Int))/\w'.cell? ⟨wr.heap.size,4,none⟩=some (.slice Ab nb cb)/\w'.cell? ⟨wr.heap.size,5,none⟩=some (.slice Ar nr cr)/\w'.cell? ⟨wr.heap.size,6,none⟩=some (.slice At nt ct)) (go_keep) ((go_at_call 65;refine(CD.out _ D3).mono ?_;rintro e w2⟨rfl,hb2⟩;have D4:=f7 hb2 D3;have B4:=B2.drew.below hb2 B2.1;have V4:=V2.drew.below hb2 V2.1;obtain⟨_,p0,p1,_⟩:=id B4;obtain⟨_,r0,r1,r2,r3,r4,r5,r6⟩:=id V4))
   clear c0 c1 c2 c3 c4 c5 c6 f0 f1 v0 v1 v2 v3 v4 v5 v6 D1 D2 D3 B1 B2 V2 hb2 CD;cases h0:(dv == 0)
   ·have HV:Hid (res=dv):=by
     have hne:¬dv=0:=by simpa using h0
     show _=_;rw[HR.out,hl.out,HF.out,if_neg hne,if_neg hne]
    go_wp2_with fail;go_ret;exact⟨by rw[HV.out];rfl,D4⟩
   ·have HV:Hid (m9 ds 0=m9 ds (k+1)):=by
     have he:dv=0:=by simpa using h0
     show _=_;rw[hl.out,HF.out,if_pos he]
    go_wp2_with fail;go_roundw
    case rel=>exact⟨k+1,by go_num,by omega,D4,B4,HV⟩
    case measure=>simp[intOf];omega
  ·have HZ:Hid (res=o9 ds ls 0):=by
    show _=_;rw[HR.out,hl.out,fI (by omega),if_pos rfl]
   clear hl HR;obtain⟨_,g0,g1,_⟩:=id B1;go_wp2_with fail;go_loopw[39] (λi wr=>∃k:Nat,i=.int .i64 (k:Int)/\k<=ls.length/\Below w.heap.size w wr/\Box2 wr w.heap.size (.slice A ds.length cap) (.slice B ls.length d8)/\Hid (res=o9 ds ls k)) (λi _=>ls.length-(intOf i).toNat)
   case atStart=>exact⟨0,rfl,by omega,D1,B1,HZ⟩
   case round =>
    clear D1 B1 HZ g0 g1;obtain⟨j,rfl,hj,D1,B1,hl⟩:=hrel;by_cases hjl:j<ls.length
    ·obtain⟨l,hxk⟩:∃l,ls[j]?=some l:=⟨_,List.getElem?_eq_getElem hjl⟩;have HF:Hid (o9 ds ls j=if linkTold ds (ls.take j) l=0 then o9 ds ls (j+1)else linkTold ds (ls.take j) l):=fJ hxk;have HX:Hid (ls[j]?=some l):=hxk;have CD:Hid (∀W,Below w.heap.size w W->Calls prog 66 #[.agg #[.slice A ds.length cap,.slice B ls.length d8],.int .i64 (j:Int)] W λe w'=>e=.returned (.int .i64 (linkTold ds (ls.take j) l))/\Below W.heap.size W w'):=λW h=>qA A B cap d8 ds ls j l W HX ((hD.out.below h).mono h.size) ((hL.out.below h).mono h.size);have lw:=D1.size;obtain⟨_,g0,g1,_⟩:=id B1;clear hxk HX hD hL;generalize linkTold ds (ls.take j) l=dv at *;go_wp2_with fail;refine(CD.out _ D1).mono ?_;rintro e w2⟨rfl,hb2⟩;have D4:=f7 hb2 D1;have B4:=B1.below hb2 B1.1;clear D1 B1 hb2 CD g0 g1;cases h0:(dv == 0)
     ·have HV:Hid (res=dv):=by
       have hne:¬dv=0:=by simpa using h0
       show _=_;rw[hl.out,HF.out,if_neg hne]
      go_wp2_with fail;go_ret;exact⟨by rw[HV.out];rfl,D4⟩
     ·have HV:Hid (res=o9 ds ls (j+1)):=by
       have he:dv=0:=by simpa using h0
       show _=_;rw[hl.out,HF.out,if_pos he]
      go_wp2_with fail;go_roundw
      case rel=>exact⟨j+1,by go_num,by omega,D4,B4,HV⟩
      case measure=>simp[intOf];omega
    ·have HV:Hid (res=0):=by
      show _=_;rw[hl.out,fK (by omega)]
     go_wp2_with fail;go_ret;exact⟨by rw[HV.out];rfl,D1⟩
theorem eZ(vd vl:Value)(ds:List Dv)(ls:List Lk)(w:World)(hD:Devs w.heap.size w vd ds)(hL:Links w.heap.size w vl ls) :
  Calls prog 29 #[.agg #[vd,vl]] w λe w'=>e=.returned (.int .i64 (netV ds ls))/\Below w.heap.size w w':=by
 have hD0:=hD;have hL0:=hL;obtain⟨A,cap,rfl,_,_,_,_⟩:=hD;obtain⟨B,d8,rfl,_,_,_,_⟩:=hL;unfold netV;by_cases h:10<ds.length\/15<ls.length
 ·rw[if_pos h];have D0:=Below.alN (Below.refl w.heap.size w) (.cells #[.slice A ds.length cap,.slice B ls.length d8] 25);clear hD0 hL0;by_cases h10:10<ds.length
  ·have t10:decide ((10:Int)<(ds.length:Int))=true:=by simp;omega
   clear h;go_enter func29,ntmps29;go_wp2_with fail;go_ret;exact⟨rfl,D0⟩
  ·have t10:decide ((10:Int)<(ds.length:Int))=false:=by simp;omega
   have t15:decide ((15:Int)<(ls.length:Int))=true:=by simp;omega
   clear h;go_enter func29,ntmps29;go_wp2_with fail;go_ret;exact⟨rfl,D0⟩
 ·rw[if_neg h];exact qF A B cap d8 ds ls _ w hD0 hL0 (by omega) (by omega) rfl
end Go.Proofs.YtppbfikimalojaaGreat
namespace Go.Proofs.YtppbfikimalojaaGreat
open Tryz
open Go.RowKit Go.Maps
theorem qG(m:Int)(w:World)(h:m<2\/40000<m):Calls prog 30 #[.int .i64 14,.int .i64 m] w λe w'=>e=.returned (.tuple #[.pointer none,.int .i64 1])/\w'=w:=by
 by_cases h1:m<2
 ·have t1:decide (m<2)=true:=by simp[h1]
  go_enter func30,ntmps30;go_wp2_with fail;go_ret2;exact⟨rfl,rfl⟩
 ·have t1:decide (m<2)=false:=by simp;omega
  have t2:decide (40000<m)=true:=by simp;omega
  go_enter func30,ntmps30;go_wp2_with fail;go_ret2;exact⟨rfl,rfl⟩
theorem qH(vd vl:Value)(ds:List Dv)(ls:List Lk)(m:Int)(w:World)(hD:Devs w.heap.size w vd ds)(hL:Links w.heap.size w vl ls)(hz:netV ds ls≠0) :
  Calls prog 6 #[.agg #[vd,vl],.int .i64 m] w λe w'=>e=.returned (.tuple #[.pointer none,.int .i64 (netV ds ls)])/\Below w.heap.size w w':=by
 have D1:Below w.heap.size w (w.alloc (.cells #[vd,vl] 25)):=(Below.refl _ w).alloc (Nat.le_refl _) _;have CK:Hid (Calls prog 29 #[.agg #[vd,vl]] (w.alloc (.cells #[vd,vl] 25)) λe w'=>e=.returned (.int .i64 (netV ds ls))/\Below w.heap.size w w'):=(eZ vd vl ds ls _ ((hD.below D1).mono D1.size) ((hL.below D1).mono D1.size)).mono λe w' h=>⟨h.1,D1.trans (h.2.mono D1.size)⟩;clear hD hL D1;generalize netV ds ls=z at *;go_enter func6,ntmps6;go_wp2_with fail;with_reducible refine CK.out.mono ?_
 rintro e w1⟨rfl,hb1⟩;go_wp2_with fail;go_ret2;exact⟨rfl,hb1⟩
theorem rnew_most(vd vl:Value)(ds:List Dv)(ls:List Lk)(m:Int)(w:World)(hD:Devs w.heap.size w vd ds)(hL:Links w.heap.size w vl ls)(hz:netV ds ls=0)(hm:m<2\/40000<m) :
  Calls prog 6 #[.agg #[vd,vl],.int .i64 m] w λe w'=>e=.returned (.tuple #[.pointer none,.int .i64 1])/\Below w.heap.size w w':=by
 have D1:Below w.heap.size w (w.alloc (.cells #[vd,vl] 25)):=(Below.refl _ w).alloc (Nat.le_refl _) _;have CK:Hid (Calls prog 29 #[.agg #[vd,vl]] (w.alloc (.cells #[vd,vl] 25)) λe w'=>e=.returned (.int .i64 0)/\Below w.heap.size w w'):=(eZ vd vl ds ls _ ((hD.below D1).mono D1.size) ((hL.below D1).mono D1.size)).mono λe w' h=>⟨by rw[h.1,hz],D1.trans (h.2.mono D1.size)⟩;have BN:Hid (∀W,Calls prog 30 #[.int .i64 14,.int .i64 m] W λe w'=>e=.returned (.tuple #[.pointer none,.int .i64 1])/\w'=W):=λW=>qG m W hm;clear hD hL D1 hm hz;go_enter func6,ntmps6;go_wp2_with fail;with_reducible refine CK.out.mono ?_
 rintro e w1⟨rfl,hb1⟩;go_wp2_with fail;with_reducible refine(BN.out _).mono ?_
 rintro e w2⟨rfl,hw2⟩;obtain rfl:=hw2.symm;go_wp2_with fail;go_ret2;exact⟨rfl,hb1⟩
structure KeptB(w w':World)(row:Option Nat):Prop where
 size:w.heap.size<=w'.heap.size
 block:∀k,k<w.heap.size->some k≠row->w'.heap[k]?=w.heap[k]?
theorem KeptB.of_below{w w':World}(h:Below w.heap.size w w'):KeptB w w' none:=⟨h.size,λk hk _=>h.block k hk⟩
section
variable {w w':World}{B e size n:Nat}{v:Value}{xs:List Value}{row:Option Nat}
theorem cK(h:w.ownsRow B e size v n xs){g:Nat}(hg:v.ownBlock=some g):g<w.heap.size/\B<=g/\∃cur,w.heap[g]?=some (.cells cur e (0,0)):=by
 rcases h.2 with⟨rfl,_⟩|⟨g',cap,cur,rfl,hb,hh,_⟩
 ·cases hg
 ·obtain rfl:g'=g:=by simpa[Value.ownBlock]using hg
  exact⟨(Array.getElem?_eq_some_iff.1 hh).1,hb,cur,hh⟩
theorem fh(h:w.ownsRow B e size v n xs)(hk:KeptB w w' row)(hr:∀g,v.ownBlock=some g->row≠some g):w'.ownsRow B e size v n xs:=by
 refine⟨h.1,?_⟩;rcases h.2 with k|⟨g,cap,cur,h1,h2,h3,h4⟩
 ·exact Or.inl k
 ·refine Or.inr ⟨g,cap,cur,h1,h2,?_,h4⟩;rw[hk.block g (Array.getElem?_eq_some_iff.1 h3).1 (λe=>hr g (by rw[h1];rfl) e.symm)];exact h3
theorem qI(w:World)(g j:Nat)(u:Value):KeptB w (w.setCell ⟨g,j,none⟩ u) (some g):=⟨by rw[Go.Deep.nblk_setCell];exact Nat.le_refl _,λk _ hr=>Go.Deep.blk_setCell_other w ⟨g,j,none⟩ u k (λe=>hr (by rw[e]))⟩
end
theorem qJ{t e:TypeId}{z:Value}{size bytes:Nat}(hu:prog.underlying t=some (.slice e))(hinfo:(prog.info? e).map (λi=>(i.zero,i.size,i.bytes))=some (some z,size,bytes))(hz1:z.cells.size=size)(hs0:0<size)(hby:bytes<=320)
  {b9 n:Nat} {w:World} {v:Value} {xs us:List Value} (ty:TypeId) (h:w.ownsRow b9 e size v n xs) (hus:us.length=size) (h1:∀u∈us,u.oneCell'=true) (hn:n<=700000) (hb:b9<=w.heap.size) :
  ∃v' w',(Builtin.append_ #[t,t] ty #[v,.slice (some ⟨w.heap.size,0,none⟩) 1 1]).run prog (w.alloc (.cells us.toArray e))=.ok v' w'/\w'.ownsRow b9 e size v' (n+1) (xs++us)/\Below b9 w w'/\KeptB w w' v.ownBlock/\(v'.ownBlock=v.ownBlock\/∃g,v'.ownBlock=some g/\w.heap.size<=g):=by
 obtain⟨i0,hi,hz0,hz1',hz2⟩:=info_parts hinfo;have hA:Below w.heap.size w (w.alloc (.cells us.toArray e)):=(Below.refl _ _).alloc (Nat.le_refl _) _;have ho:(w.alloc (.cells us.toArray e)).ownsRow b9 e size v n xs:=fh h (KeptB.of_below hA) (λg _=>by simp);obtain⟨v',w',hr,h4,h5,_,h7⟩:=run_append_own_at (P:=prog) (w.alloc (.cells us.toArray e)) b9 t ty e i0 z size bytes hu hi hz0 hz1' hz2 hz1 hs0 v n xs ho ⟨w.heap.size,0,none⟩ 1 1 us (by rw[hus,Nat.one_mul]) (λj x hj=>by
  have hg:(w.alloc (.cells us.toArray e)).heap[w.heap.size]?=some (.cells us.toArray e):=Go.Deep.blk_alloc_new w _;rw[Addr.add_lit,Nat.zero_add];simp only[World.cell?,hg];simp[hj]) h1 (by unfold maxLen;omega) (by
   have:(n+1)*bytes<=700001*320:=Nat.mul_le_mul (by omega) hby;omega) (by simp;omega)
 have hsz:(w.alloc (.cells us.toArray e)).heap.size=w.heap.size+1:=Go.Deep.nblk_alloc w _;refine⟨v',w',hr,h4,?_,⟨by have:=h5.size;omega,λk hk hne=>?_⟩,?_⟩
 ·exact((Below.refl b9 w).alloc hb (.cells us.toArray e)).grown h5 (by simp;omega) (λk e=>(ho.lt k e).1)
 ·rw[h5.block k (by omega) hne,Go.Deep.blk_alloc_lt w _ k hk]
 ·rcases h7 with h7|h7
  ·exact Or.inl h7
  ·exact Or.inr ⟨_,h7,by omega⟩
theorem jK:(prog.info? 89).map (λi=>(i.zero,i.size,i.bytes))=some (some (.agg zeros40),40,320):=by kernel_rfl
theorem qK{t:TypeId}(hu:prog.underlying t=some (.slice 89)){b9 n:Nat}{w:World}{v:Value}{xs:List Value}{us:Array Value}(ty:TypeId)(h:w.ownsRow b9 89 40 v n xs)(hus:us.size=40)(h1:us.all (·.oneCell')=true)(hn:n<=700000)(hb:b9<=w.heap.size) :
  ∃v' w',(Builtin.append_ #[t,t] ty #[v,.slice (some ⟨w.heap.size,0,none⟩) 1 1]).run prog (w.alloc (.cells us 89))=.ok v' w'/\w'.ownsRow b9 89 40 v' (n+1) (xs++us.toList)/\Below b9 w w'/\KeptB w w' v.ownBlock/\(v'.ownBlock=v.ownBlock\/∃g,v'.ownBlock=some g/\w.heap.size<=g):=by
 obtain⟨l,rfl⟩:∃l:List Value,us=l.toArray:=⟨us.toList,by simp⟩;exact qJ hu jK (by rfl) (by omega) (by omega) ty h (by simpa using hus) (λu hu=>by
  have:=Array.all_eq_true_iff_forall_mem.1 h1;exact this u (by simpa using hu)) hn hb
end Go.Proofs.YtppbfikimalojaaGreat
