/-
  XAU.
-/
import Derived.Test.YtppbfikimalojaaGreatXLy
import Derived.Test.YtppbfikimalojaaGreatXAL
import Derived.Test.YtppbfikimalojaaGreatXAT
import Derived.Test.YtppbfikimalojaaGreatXAN
import Derived.Test.YtppbfikimalojaaGreatXAM
set_option maxHeartbeats 8000000
set_option maxRecDepth 100000
namespace Go.Proofs.YtppbfikimalojaaGreat
open Tryz
open Go.RowKit Go.Maps
theorem OpPost.setD{b9 a M c9 g:Nat}{w V w':World}{ns:List Nd}{φ:Env->Bool}{e:Ending}(hA:Ar b9 a M 14 c9 w ns)(hb:Below w.heap.size w V)(h:OpPost b9 a M 14 c9 V ns g φ e w'):SPostD True b9 a M c9 φ w ns e w':=by
 obtain⟨ns',h1,h2,h3,_,h5⟩:=h;have k:=(hA.kbelow hb).trans h2;rcases h5 with⟨f,rfl,hf,hx⟩|⟨rfl,_⟩
 ·exact⟨ns',_,_,rfl,h1,k,h3,⟨Or.inl ⟨rfl,f,rfl,hf,hx⟩⟩⟩
 ·exact⟨ns',_,_,rfl,h1,k,h3,⟨Or.inr ⟨rfl,rfl,trivial⟩⟩⟩
theorem jE{bR R MR c9 n b9 a M mostA:Nat}{sl:Value}{xs:List Value}{ns nsA:List Nd}{p q:Int}{s:Nat->Nat->Nat->Nat}{w:World}(hRc:Rc bR R MR c9 sl (n+1) xs ns w)(hs:Hd (HistN s (n+1) xs ns))(hn:n<1000000)(hA:Ar b9 a M 14 mostA w nsA)(u1:R<b9)(u2:MR<b9)(u3:rowOf w R<b9)(u4:∀g,sl.ownBlock=some g->g<b9) :
  Calls prog 60 #[.pointer (some ⟨R,0,none⟩),.pointer (some ⟨a,0,none⟩),.agg #[.int .i64 p,.int .i64 q]] w (SPostD True b9 a M mostA (ev ns (atN (s n) p q)) w nsA):=by
 have D1:Below w.heap.size w (w.alloc (.cells #[.int .i64 p,.int .i64 q] 27)):=Below.alloc' (Below.refl _ w) _;have b0:Bz (w.alloc (.cells #[.int .i64 p,.int .i64 q] 27)) w.heap.size #[.int .i64 p,.int .i64 q] 27:=Bz.new w _ _ _ rfl;have h1:=hRc.below D1;obtain⟨g,cap,rfl,lg,hcap,hcm,hlen,hcell⟩:=h1.sl;unfold maxLen at hcm;have HSV:Hd (SetsV (((xs.drop (n*40)).take 40).toArray) (s n)):=⟨hs.out.sets (by omega) hlen⟩;obtain⟨cs,hcs⟩:∃cs:Array Value,cs=((xs.drop (n*40)).take 40).toArray:=⟨_,rfl⟩;rw[<- hcs]at HSV;have h40:Hd (cs.size=40):=⟨HSV.out.1⟩;have RG:Hd ((w.alloc (.cells #[.int .i64 p,.int .i64 q] 27)).rangeAt g (n*40) cs.toList):=⟨λj v hj=>by
  rw[hcs]at hj;have h2:(xs.drop (n*40))[j]?=some v:=by
   have hj':((xs.drop (n*40)).take 40)[j]?=some v:=by simpa using hj
   rw[List.getElem?_take]at hj'
   split at hj'
   ·exact hj'
   ·cases hj'
  rw[List.getElem?_drop]at h2;exact hcell _ _ h2⟩
 have fn:atN (s n) p q<ns.length:=hs.out.at_lt (by omega) h1.ar.wf p q;obtain⟨KK,hKK⟩:∃KK:World->Prop,KK=λV=>Below (w.alloc (.cells #[.int .i64 p,.int .i64 q] 27)).heap.size (w.alloc (.cells #[.int .i64 p,.int .i64 q] 27)) V:=⟨_,rfl⟩;have RO:Hd (∀V,KK V->Calls prog 10 #[.pointer (some ⟨R,0,none⟩)] V λe w'=>e=.returned (.int .i64 (n:Int))/\w'=V):=⟨λV hV=>by rw[hKK]at hV;exact ta (h1.below hV) hn⟩;have AT:Hd (∀V,Calls prog 46 #[.agg cs,.agg #[.int .i64 p,.int .i64 q]] V λe w'=>e=.returned (.int .i64 (atN (s n) p q:Int))/\Below V.heap.size V w'):=⟨λV=>tc cs (s n) p q V HSV.out⟩;have CT:Hd (∀V,KK V->Calls prog 94 #[.pointer (some ⟨a,0,none⟩),.pointer (some ⟨R,0,none⟩),.int .i64 (atN (s n) p q:Int)] V λe w'=>∃(v er:Int),e=.returned (.tuple #[.int .i64 v,.int .i64 er])/\Hd (SPostD True b9 a M mostA (ev ns (atN (s n) p q)) w nsA e w')/\Hd (∀i,i<b9\/i=w.heap.size->w'.heap[i]?=V.heap[i]?)):=⟨λV hV=>by
  rw[hKK]at hV;have hb:=g8 hV D1;have hR2:Ar bR R MR 14 c9 V ns:=hRc.ar.below hb;have hA2:=hA.below hb;have er:rowOf V R=rowOf w R:=l9 (hb.block _ hRc.lt);refine(eP (λ_=>true) hA2 hR2 (Nat.le_refl _) (λi hi=>by
   have h1:i<b9:=by
    rcases hi with rfl|rfl|rfl
    ·exact u1
    ·exact u2
    ·rw[er];exact u3
   have h2:=hA2.lowA;have h3:=hA2.lowM;have h4:=hA2.row.choose_spec.2.1;refine⟨by omega,by omega,by omega⟩) fn (jc (Nat.le_add_left _ _)) hR2.vars16).mono λe w' h=>?_
  have h':=h.setD hA hb;obtain⟨ns',v,er,he,_⟩:=id h';exact⟨v,er,he,⟨h'⟩,⟨λi hi=>by
   obtain⟨_,_,hk,_⟩:=h;have q1:=hA.lta;have q2:=hA.ltM;obtain⟨_,_,q3,q4⟩:=hA.row;have q5:rowOf V a=rowOf w a:=l9 (hb.block _ hA.lta);have q6:w.heap.size+1<=V.heap.size:=by simpa using hV.size
   have q7:=hA.lowA;have q8:=hA.lowM;refine hk.blk i (by omega) (λhm=>?_) ?_
   ·rcases hm with e|e|e|e|e|e
    ·have:i=a:=e;omega
    ·have:i=a:=e;omega
    ·have:i=M:=e;omega
    ·cases e
    ·cases e
    ·cases e
   ·show i≠rowOf V a;omega⟩⟩⟩
 have KS:Hd (∀V V':World,Below V.heap.size V V'->(V.cell? ⟨R,4,none⟩=some (.slice (some ⟨g,0,none⟩) (n+1) cap)/\V.cell? ⟨w.heap.size,0,none⟩=some (.int .i64 p)/\V.cell? ⟨w.heap.size,1,none⟩=some (.int .i64 q)/\Hd (V.rangeAt g (n*40) cs.toList))->(V'.cell? ⟨R,4,none⟩=some (.slice (some ⟨g,0,none⟩) (n+1) cap)/\V'.cell? ⟨w.heap.size,0,none⟩=some (.int .i64 p)/\V'.cell? ⟨w.heap.size,1,none⟩=some (.int .i64 q)/\Hd (V'.rangeAt g (n*40) cs.toList))):=⟨λV V' k ⟨a1,a2,a3,a4⟩=>⟨ft k a1,ft k a2,ft k a3,⟨λj v hj=>ft k (a4.out j v hj)⟩⟩⟩;have KB:Hd (∀V V':World,Below V.heap.size V V'->KK V->KK V'):=⟨λV V' k h=>by rw[hKK]at h ⊢;exact g8 k h⟩;have KD:Hd (∀V,KK V->Below w.heap.size w V):=⟨λV h=>by rw[hKK]at h;exact g8 h D1⟩;have K0:KK (w.alloc (.cells #[.int .i64 p,.int .i64 q] 27)).drew:=by rw[hKK];exact(Below.refl _ _).drew
 have S0:(w.alloc (.cells #[.int .i64 p,.int .i64 q] 27)).drew.cell? ⟨R,4,none⟩=some (.slice (some ⟨g,0,none⟩) (n+1) cap)/\(w.alloc (.cells #[.int .i64 p,.int .i64 q] 27)).drew.cell? ⟨w.heap.size,0,none⟩=some (.int .i64 p)/\(w.alloc (.cells #[.int .i64 p,.int .i64 q] 27)).drew.cell? ⟨w.heap.size,1,none⟩=some (.int .i64 q)/\Hd ((w.alloc (.cells #[.int .i64 p,.int .i64 q] 27)).drew.rangeAt g (n*40) cs.toList):=⟨h1.c4,b0.cell 0 _ rfl,b0.cell 1 _ rfl,⟨RG.out⟩⟩;have c4:(w.alloc (.cells #[.int .i64 p,.int .i64 q] 27)).cell? ⟨R,4,none⟩=some (.slice (some ⟨g,0,none⟩) (n+1) cap):=h1.c4;have t0:(((n+1:Nat):Int) == 0)=false:=by simp;omega
 have t0':((n:Int)+1 == 0)=false:=by simp;omega
 have i1:(n:Int)<(n:Int)+1:=by omega
 have i2:(0:Int)<=(n:Int):=by omega
 have hR:R<w.heap.size:=hRc.lt;have hae:a<w.heap.size:=hA.lta;have hgb:g<b9:=u4 g rfl;generalize hQ:SPostD True b9 a M mostA (ev ns (atN (s n) p q)) w nsA=Q at *;generalize atN (s n) p q=f at *;clear hRc h1 b0 hcell HSV RG hs fn hKK D1 hcs hlen hA u2 u3 u4 hQ;go_enter func60,ntmps60;go_upto_region 3 with fail;refine wp_region_held_drew (S:=λV=>V.cell? ⟨R,4,none⟩=some (.slice (some ⟨g,0,none⟩) (n+1) cap)/\V.cell? ⟨w.heap.size,0,none⟩=some (.int .i64 p)/\V.cell? ⟨w.heap.size,1,none⟩=some (.int .i64 q)/\Hd (V.rangeAt g (n*40) cs.toList)) (by kernel_rfl) S0 (λhHeld=>?_);refine tk 0 ?_ (hy:=by(intro w hSw;obtain⟨s0,s1,s2,_⟩:=hSw;go_simp;(try with_reducible rfl)));try simp only[ly]
 refine tk 1 ?_ (hy:=by(intro w hSw;obtain⟨s0,s1,s2,_⟩:=hSw;go_simp;(try with_reducible rfl)));try simp only[ly]
 refine tk 2 ?_ (hy:=by(intro w hSw;obtain⟨s0,s1,s2,_⟩:=hSw;go_simp;(try with_reducible rfl)));try simp only[ly]
 refine tk 3 ?_ (hy:=by(intro w hSw;obtain⟨s0,s1,s2,_⟩:=hSw;go_simp;(try with_reducible rfl)));try simp only[ly]
 refine tk 4 ?_ (hy:=by(intro w hSw;obtain⟨s0,s1,s2,_⟩:=hSw;go_simp;(try with_reducible rfl)));try simp only[ly]
 refine tk 5 ?_ (hy:=by(intro w hSw;obtain⟨s0,s1,s2,_⟩:=hSw;go_simp;(try with_reducible rfl)));try simp only[ly]
 refine tk 6 ?_ (hy:=by(intro w hSw;obtain⟨s0,s1,s2,_⟩:=hSw;go_simp;(try with_reducible rfl)));try simp only[ly]
 refine tk 7 ?_ (hy:=by(intro w hSw;obtain⟨s0,s1,s2,_⟩:=hSw;go_simp;(try with_reducible rfl)));try simp only[ly]
 refine tk 8 ?_ (hy:=by(intro w hSw;obtain⟨s0,s1,s2,_⟩:=hSw;go_simp;(try with_reducible rfl)));try simp only[ly]
 refine tk 12 ?_ (hy:=by(intro w hSw;obtain⟨s0,s1,s2,_⟩:=hSw;go_simp;(try with_reducible rfl)));try simp only[ly]
 refine rd 9 (λK hK=>?_);go_simp
 (with_reducible refine(RO.out _ K0).mono ?_)
 rintro e w2⟨rfl,rfl⟩;dsimp only;refine hK.out _ _ (hHeld) (λhHeld=>?_);clear hK K;try simp only[ly]
 refine tk 10 ?_ (hy:=by(intro w hSw;go_simp;(try with_reducible rfl)));try simp only[ly]
 refine' wpAnyH_take (i:=11) (v:=.agg cs) rfl (by kernel_rfl) (by kernel_rfl) (by kernel_rfl) (λ_ _ _ h=>h) (yieldsIf_load_mid (by rfl) 89 _ rfl g (n*40) rfl cs.toList _ (λW hS=>td hS) J0 rfl (by rw[Array.length_toList,h40.out];exact aP)) ‹_› ?gr12;try simp only[ly]
 refine rd 13 (λK hK=>?_);go_simp
 (with_reducible refine(AT.out _).mono ?_)
 rintro e w3⟨rfl,hb3⟩;have S3:=KS.out _ _ hb3 hHeld;have K3:=KB.out _ _ hb3 K0;dsimp only;clear hHeld;refine hK.out _ _ (S3) (λhHeld=>?_);clear hK K;try simp only[ly]
 refine rd 14 (λK hK=>?_);go_simp
 (with_reducible refine(CT.out _ K3).mono ?_)
 rintro e w4⟨v,er,rfl,hQ4,hk4⟩;have S4:w4.cell? ⟨R,4,none⟩=some (.slice (some ⟨g,0,none⟩) (n+1) cap)/\w4.cell? ⟨w.heap.size,0,none⟩=some (.int .i64 p)/\w4.cell? ⟨w.heap.size,1,none⟩=some (.int .i64 q)/\Hd (w4.rangeAt g (n*40) cs.toList):=⟨(j9 (hk4.out R (Or.inl u1))).trans hHeld.1,(j9 (hk4.out _ (Or.inr rfl))).trans hHeld.2.1,(j9 (hk4.out _ (Or.inr rfl))).trans hHeld.2.2.1,⟨λj v hj=>(j9 (hk4.out g (Or.inl hgb))).trans (hHeld.2.2.2.out j v hj)⟩⟩;dsimp only;clear hHeld hk4;refine hK.out _ _ (S4) (λhHeld=>?_);clear hK K;try simp only[ly]
 refine tk 15 ?_ (hy:=by(intro w hSw;go_simp;(try with_reducible rfl)));try simp only[ly]
 refine tk 16 ?_ (hy:=by(intro w hSw;go_simp;(try with_reducible rfl)));try simp only[ly]
 refine tk 17 ?_ (hy:=by(intro w hSw;go_simp;(try with_reducible rfl)));try simp only[ly]
 refine tk 18 ?_ (hy:=by(intro w hSw;go_simp;(try with_reducible rfl)));try simp only[ly]
 refine wpAnyH_done (by kernel_rfl) ?_ _;clear hHeld S4 S3 K3 K0 S0 RO AT CT KS KB KD;go_wp2_with fail;exact hQ4.out
theorem home_any(A B:Option Addr)(cap d8 nl:Nat)(ds:List Dv)(s:ByteArray)(w:World)(hD:Hid (Devs w.heap.size w (.slice A ds.length cap) ds)) :
  Calls prog 61 #[.agg #[.slice A ds.length cap,.slice B nl d8],.string s] w λe w'=>e=.returned (.agg #[.int .i64 (findFrom ds s.toList 0),.int .i64 0])/\Below w.heap.size w w':=by
 have D0:Below w.heap.size w (((w.alloc (.cells #[.slice A ds.length cap,.slice B nl d8] 25)).alloc (.cells #[.string s] 9)).alloc (.cells #[.int .i64 0,.int .i64 0] 27)):=Below.alloc' (Below.alloc' (Below.alloc' (Below.refl _ _) _) _) _;have S0:=(E0 (w.alloc (.cells #[.slice A ds.length cap,.slice B nl d8] 25)) #[.string s] 9 (w.heap.size+1) (by simp)).alloc (.cells #[.int .i64 0,.int .i64 0] 27);have P0:=E0 ((w.alloc (.cells #[.slice A ds.length cap,.slice B nl d8] 25)).alloc (.cells #[.string s] 9)) #[.int .i64 0,.int .i64 0] 27 (w.heap.size+1+1) (by simp);have IX:Hid (∀W,Below w.heap.size w W->Bk W (w.heap.size+1) #[.string s] 9->Calls prog 107 #[.slice A ds.length cap,.func (.func 108) #[] #[.pointer (some ⟨w.heap.size+1,0,none⟩)]] W λe w'=>e=.returned (.int .i64 (findFrom ds s.toList 0))/\Below W.heap.size W w'):=λW h hb=>sQ A ds.length cap ds s (w.heap.size+1) W ((hD.out.below h).mono h.size) hb.lt hb.one.1;clear hD;generalize findFrom ds s.toList 0=j at *;go_enter func61,ntmps61;go_wp2_with fail;refine(IX.out _ D0 S0).mono ?_;rintro e w1⟨rfl,hb1⟩;have D1:=g8 hb1 D0;have P1:=Bk.keep hb1 P0;clear hb1 D0 S0 P0 IX;have hlt:=P1.lt;obtain⟨p0,p1⟩:=P1.two;have f0:=P1.fz 0;have f1:=P1.fz 1;go_wp2_with fail;have Q:=(P1.setS (j:=0) (.int .i64 j)).setS (j:=1) (.int .i64 0);have s0:=Q.at 0;have s1:=Q.at 1;refine bodyPost_ret (v:=.agg #[.int .i64 j,.int .i64 0]) (by simp[results,results61,go_sem,s0,s1]) rfl ⟨rfl,?_⟩;exact r9 (r9 D1 (by omega)) (by omega)
theorem SPostD.pre{E:Prop}{b9 a M c9:Nat}{w V w':World}{ns:List Nd}{φ:Env->Bool}{e:Ending}(hA:Ar b9 a M 14 c9 w ns)(hb:Below w.heap.size w V)(h:SPostD E b9 a M c9 φ V ns e w'):SPostD E b9 a M c9 φ w ns e w':=by
 obtain⟨ns',v,er,h1,h2,h3,h4,h5⟩:=h;exact⟨ns',v,er,h1,h2,(hA.kbelow hb).trans h3,h4,h5⟩
theorem SPostD.old{E:Prop}{b9 a M c9:Nat}{w w':World}{ns:List Nd}{φ:Env->Bool}{e:Ending}(hA:Ar b9 a M 14 c9 w ns)(h:SPostD E b9 a M c9 φ w ns e w'){i:Nat}(hi:i<b9)(hw:i<w.heap.size):w'.heap[i]?=w.heap[i]?:=by
 obtain⟨ns',v,er,h1,h2,hk,h4,h5⟩:=h;have q7:=hA.lowA;have q8:=hA.lowM;obtain⟨_,_,q3,q4⟩:=hA.row;refine hk.blk i hw (λhm=>?_) ?_
 ·rcases hm with e|e|e|e|e|e
  ·have:i=a:=e;omega
  ·have:i=a:=e;omega
  ·have:i=M:=e;omega
  ·cases e
  ·cases e
  ·cases e
 ·show i≠rowOf w a;omega
structure AtV(w:World)(nR nP nS R:Nat)(A B:Option Addr)(nd cap nl d8:Nat)(s:ByteArray):Prop where
 r:w.cell? ⟨nR,0,none⟩=some (.pointer (some ⟨R,0,none⟩))
 p0:w.cell? ⟨nP,0,none⟩=some (.slice A nd cap)
 p1:w.cell? ⟨nP,1,none⟩=some (.slice B nl d8)
 s:w.cell? ⟨nS,0,none⟩=some (.string s)
 lr:nR<w.heap.size
 lp:nP<w.heap.size
 ls:nS<w.heap.size
theorem qn{nR nP nS R bR MR mo K:Nat}{A B:Option Addr}{cap d8 nl:Nat}{s:ByteArray}{ds:List Dv}{ls:List Lk}{sl:Value}{xs:List Value}{nsR:List Nd}{sF:Nat->Nat->Nat->Nat}{w:World}(hV:AtV w nR nP nS R A B ds.length cap nl d8 s)(hF:RcF ds ls bR R MR mo K sl xs nsR sF w)(hD:Devs w.heap.size w (.slice A ds.length cap) ds) :
  Hd (∀b9 a M W ns,w.heap.size<=b9->Below w.heap.size w W->Ar b9 a M 14 40000 W ns->Calls prog 59 #[.pointer (some ⟨a,0,none⟩),.pointer (some ⟨nR,0,none⟩),.pointer (some ⟨nP,0,none⟩),.pointer (some ⟨nS,0,none⟩)] W (SPostD True b9 a M 40000 (atF ds ls K (findFrom ds s.toList 0) 0) W ns)):=⟨λb9 a M W ns hbs hb hA=>by
 have HO:Hd (∀V,Below W.heap.size W V->Calls prog 61 #[.agg #[.slice A ds.length cap,.slice B nl d8],.string s] V λe w'=>e=.returned (.agg #[.int .i64 (findFrom ds s.toList 0),.int .i64 0])/\Below V.heap.size V w'):=⟨λV h=>home_any A B cap d8 nl ds s V ((hD.below (g8 h hb)).mono (g8 h hb).size)⟩;have hle:=hb.size;have SE:Hd (∀V,Below W.heap.size W V->Calls prog 60 #[.pointer (some ⟨R,0,none⟩),.pointer (some ⟨a,0,none⟩),.agg #[.int .i64 (findFrom ds s.toList 0),.int .i64 0]] V λe w'=>∃v er:Int,e=.returned (.tuple #[.int .i64 v,.int .i64 er])/\Hd (SPostD True b9 a M 40000 (atF ds ls K (findFrom ds s.toList 0) 0) W ns e w')/\Hd (∀i,i<w.heap.size->w'.heap[i]?=V.heap[i]?)):=⟨λV h=>by
  have hb2:=g8 h hb;have hF2:=hF.below hb2;have hA2:=hA.below h;have e1:rowOf V R=rowOf w R:=l9 (hb2.block _ hF.rc.lt);obtain⟨_,_,_,q4⟩:=hF.rc.ar.row;have q5:=hF.rc.lt;have q6:=hF.rc.ar.ltM;refine(jE (p:=findFrom ds s.toList 0) (q:=0) hF2.rc ⟨hF2.hist⟩ hF.lt hA2 (by omega) (by omega) (by omega) (λg hg=>by
   have:=(cK hF.rc.row hg).1;omega)).mono λe w' hp=>?_
  have e2:ev nsR (atN (sF K) (findFrom ds s.toList 0) 0)=atF ds ls K (findFrom ds s.toList 0) 0:=hF.at (Nat.lt_succ_self _) _ _;rw[e2]at hp;obtain⟨ns',v,er,he,_⟩:=id hp;exact⟨v,er,he,⟨hp.pre hA h⟩,⟨λi hi=>hp.old hA2 (by omega) (Nat.lt_of_lt_of_le hi hb2.size)⟩⟩⟩
 have c0:=(hb.cell (p:=⟨nR,0,none⟩) hV.lr).trans hV.r;have c1:=(hb.cell (p:=⟨nP,0,none⟩) hV.lp).trans hV.p0;have c2:=(hb.cell (p:=⟨nP,1,none⟩) hV.lp).trans hV.p1;have c3:=(hb.cell (p:=⟨nS,0,none⟩) hV.ls).trans hV.s;have l0:=Nat.lt_of_lt_of_le hV.lr hb.size;have l1:=Nat.lt_of_lt_of_le hV.lp hb.size;have l2:=Nat.lt_of_lt_of_le hV.ls hb.size;have v0:=hV.lr;have v1:=hV.lp;have v2:=hV.ls;have KC:Hd (∀V V':World,(∀i,i<w.heap.size->V'.heap[i]?=V.heap[i]?)->(V.cell? ⟨nR,0,none⟩=some (.pointer (some ⟨R,0,none⟩))/\V.cell? ⟨nP,0,none⟩=some (.slice A ds.length cap)/\V.cell? ⟨nP,1,none⟩=some (.slice B nl d8)/\V.cell? ⟨nS,0,none⟩=some (.string s))->V'.cell? ⟨nR,0,none⟩=some (.pointer (some ⟨R,0,none⟩))/\V'.cell? ⟨nP,0,none⟩=some (.slice A ds.length cap)/\V'.cell? ⟨nP,1,none⟩=some (.slice B nl d8)/\V'.cell? ⟨nS,0,none⟩=some (.string s)):=⟨λV V' h ⟨a1,a2,a3,a4⟩=>⟨(j9 (h _ v0)).trans a1,(j9 (h _ v1)).trans a2,(j9 (h _ v1)).trans a3,(j9 (h _ v2)).trans a4⟩⟩;clear hF hD hV hb hA hbs v0 v1 v2;generalize hQ:SPostD True b9 a M 40000 (atF ds ls K (findFrom ds s.toList 0) 0) W ns=Q at *;generalize findFrom ds s.toList 0=j at *;clear hQ;go_enter func59,ntmps59;go_wp2_with fail;refine wp_region_held_drew (S:=λV=>V.cell? ⟨nR,0,none⟩=some (.pointer (some ⟨R,0,none⟩))/\V.cell? ⟨nP,0,none⟩=some (.slice A ds.length cap)/\V.cell? ⟨nP,1,none⟩=some (.slice B nl d8)/\V.cell? ⟨nS,0,none⟩=some (.string s)) (by kernel_rfl) ⟨c0,c1,c2,c3⟩ (λhHeld=>?_);refine tk 0 ?_ (hy:=by(intro w hSw;obtain⟨s0,s1,s2,s3⟩:=hSw;go_simp;(try with_reducible rfl)));try simp only[ly]
 refine tk 1 ?_ (hy:=by(intro w hSw;obtain⟨s0,s1,s2,s3⟩:=hSw;go_simp;(try with_reducible rfl)));try simp only[ly]
 refine tk 2 ?_ (hy:=by(intro w hSw;obtain⟨s0,s1,s2,s3⟩:=hSw;go_simp;(try with_reducible rfl)));try simp only[ly]
 refine tk 3 ?_ (hy:=by(intro w hSw;obtain⟨s0,s1,s2,s3⟩:=hSw;go_simp;(try with_reducible rfl)));try simp only[ly]
 refine rd 4 (λK hK=>?_);go_simp
 (with_reducible refine(HO.out _ (bj W)).mono ?_)
 rintro e w3⟨rfl,hb3⟩;have S3:=KC.out _ w3 (λi hi=>hb3.block i (Nat.lt_of_lt_of_le hi hle)) hHeld;have B3:Below W.heap.size W w3:=g8 hb3 (bj W);dsimp only;clear hHeld hb3;refine hK.out _ _ (S3) (λhHeld=>?_);clear hK K S3;try simp only[ly]
 refine rd 5 (λK hK=>?_);go_simp
 (with_reducible refine(SE.out _ B3).mono ?_)
 rintro e w4⟨v,er,rfl,hQ4,hk4⟩;have S4:=KC.out _ w4 hk4.out hHeld;dsimp only;clear hHeld hk4 B3;refine hK.out _ _ (S4) (λhHeld=>?_);clear hK K S4;try simp only[ly]
 refine tk 6 ?_ (hy:=by(intro w hSw;go_simp;(try with_reducible rfl)));try simp only[ly]
 refine tk 7 ?_ (hy:=by(intro w hSw;go_simp;(try with_reducible rfl)));try simp only[ly]
 refine tk 8 ?_ (hy:=by(intro w hSw;go_simp;(try with_reducible rfl)));try simp only[ly]
 refine tk 9 ?_ (hy:=by(intro w hSw;go_simp;(try with_reducible rfl)));try simp only[ly]
 refine wpAnyH_done (by kernel_rfl) ?_ _;clear hHeld SE HO KC;go_wp2_with fail;exact hQ4.out⟩
theorem at_set2{nR nP nS R bR MR mo K:Nat}{A B:Option Addr}{cap d8 nl:Nat}{s:ByteArray}{ds:List Dv}{ls:List Lk}{sl:Value}{xs:List Value}{nsR:List Nd}{sF:Nat->Nat->Nat->Nat}{w:World}(hV:AtV w nR nP nS R A B ds.length cap nl d8 s)(hF:RcF ds ls bR R MR mo K sl xs nsR sF w)(hD:Devs w.heap.size w (.slice A ds.length cap) ds) :
  Hd (∀b9 a M W ns,w.heap.size<=b9->Below w.heap.size w W->Ar b9 a M 14 40000 W ns->Calls prog 62 #[.pointer (some ⟨a,0,none⟩),.pointer (some ⟨nR,0,none⟩),.pointer (some ⟨nP,0,none⟩),.pointer (some ⟨nS,0,none⟩)] W (SPostD True b9 a M 40000 (atF ds ls K (findFrom ds s.toList 0) 0) W ns)):=⟨λb9 a M W ns hbs hb hA=>by
 have HO:Hd (∀V,Below W.heap.size W V->Calls prog 61 #[.agg #[.slice A ds.length cap,.slice B nl d8],.string s] V λe w'=>e=.returned (.agg #[.int .i64 (findFrom ds s.toList 0),.int .i64 0])/\Below V.heap.size V w'):=⟨λV h=>home_any A B cap d8 nl ds s V ((hD.below (g8 h hb)).mono (g8 h hb).size)⟩;have hle:=hb.size;have SE:Hd (∀V,Below W.heap.size W V->Calls prog 60 #[.pointer (some ⟨R,0,none⟩),.pointer (some ⟨a,0,none⟩),.agg #[.int .i64 (findFrom ds s.toList 0),.int .i64 0]] V λe w'=>∃v er:Int,e=.returned (.tuple #[.int .i64 v,.int .i64 er])/\Hd (SPostD True b9 a M 40000 (atF ds ls K (findFrom ds s.toList 0) 0) W ns e w')/\Hd (∀i,i<w.heap.size->w'.heap[i]?=V.heap[i]?)):=⟨λV h=>by
  have hb2:=g8 h hb;have hF2:=hF.below hb2;have hA2:=hA.below h;have e1:rowOf V R=rowOf w R:=l9 (hb2.block _ hF.rc.lt);obtain⟨_,_,_,q4⟩:=hF.rc.ar.row;have q5:=hF.rc.lt;have q6:=hF.rc.ar.ltM;refine(jE (p:=findFrom ds s.toList 0) (q:=0) hF2.rc ⟨hF2.hist⟩ hF.lt hA2 (by omega) (by omega) (by omega) (λg hg=>by
   have:=(cK hF.rc.row hg).1;omega)).mono λe w' hp=>?_
  have e2:ev nsR (atN (sF K) (findFrom ds s.toList 0) 0)=atF ds ls K (findFrom ds s.toList 0) 0:=hF.at (Nat.lt_succ_self _) _ _;rw[e2]at hp;obtain⟨ns',v,er,he,_⟩:=id hp;exact⟨v,er,he,⟨hp.pre hA h⟩,⟨λi hi=>hp.old hA2 (by omega) (Nat.lt_of_lt_of_le hi hb2.size)⟩⟩⟩
 have c0:=(hb.cell (p:=⟨nR,0,none⟩) hV.lr).trans hV.r;have c1:=(hb.cell (p:=⟨nP,0,none⟩) hV.lp).trans hV.p0;have c2:=(hb.cell (p:=⟨nP,1,none⟩) hV.lp).trans hV.p1;have c3:=(hb.cell (p:=⟨nS,0,none⟩) hV.ls).trans hV.s;have l0:=Nat.lt_of_lt_of_le hV.lr hb.size;have l1:=Nat.lt_of_lt_of_le hV.lp hb.size;have l2:=Nat.lt_of_lt_of_le hV.ls hb.size;have v0:=hV.lr;have v1:=hV.lp;have v2:=hV.ls;have KC:Hd (∀V V':World,(∀i,i<w.heap.size->V'.heap[i]?=V.heap[i]?)->(V.cell? ⟨nR,0,none⟩=some (.pointer (some ⟨R,0,none⟩))/\V.cell? ⟨nP,0,none⟩=some (.slice A ds.length cap)/\V.cell? ⟨nP,1,none⟩=some (.slice B nl d8)/\V.cell? ⟨nS,0,none⟩=some (.string s))->V'.cell? ⟨nR,0,none⟩=some (.pointer (some ⟨R,0,none⟩))/\V'.cell? ⟨nP,0,none⟩=some (.slice A ds.length cap)/\V'.cell? ⟨nP,1,none⟩=some (.slice B nl d8)/\V'.cell? ⟨nS,0,none⟩=some (.string s)):=⟨λV V' h ⟨a1,a2,a3,a4⟩=>⟨(j9 (h _ v0)).trans a1,(j9 (h _ v1)).trans a2,(j9 (h _ v1)).trans a3,(j9 (h _ v2)).trans a4⟩⟩;clear hF hD hV hb hA hbs v0 v1 v2;generalize hQ:SPostD True b9 a M 40000 (atF ds ls K (findFrom ds s.toList 0) 0) W ns=Q at *;generalize findFrom ds s.toList 0=j at *;clear hQ;go_enter func62,ntmps62;go_wp2_with fail;refine wp_region_held_drew (S:=λV=>V.cell? ⟨nR,0,none⟩=some (.pointer (some ⟨R,0,none⟩))/\V.cell? ⟨nP,0,none⟩=some (.slice A ds.length cap)/\V.cell? ⟨nP,1,none⟩=some (.slice B nl d8)/\V.cell? ⟨nS,0,none⟩=some (.string s)) (by kernel_rfl) ⟨c0,c1,c2,c3⟩ (λhHeld=>?_);refine tk 0 ?_ (hy:=by(intro w hSw;obtain⟨s0,s1,s2,s3⟩:=hSw;go_simp;(try with_reducible rfl)));try simp only[ly]
 refine tk 1 ?_ (hy:=by(intro w hSw;obtain⟨s0,s1,s2,s3⟩:=hSw;go_simp;(try with_reducible rfl)));try simp only[ly]
 refine tk 2 ?_ (hy:=by(intro w hSw;obtain⟨s0,s1,s2,s3⟩:=hSw;go_simp;(try with_reducible rfl)));try simp only[ly]
 refine tk 3 ?_ (hy:=by(intro w hSw;obtain⟨s0,s1,s2,s3⟩:=hSw;go_simp;(try with_reducible rfl)));try simp only[ly]
 refine rd 4 (λK hK=>?_);go_simp
 (with_reducible refine(HO.out _ (bj W)).mono ?_)
 rintro e w3⟨rfl,hb3⟩;have S3:=KC.out _ w3 (λi hi=>hb3.block i (Nat.lt_of_lt_of_le hi hle)) hHeld;have B3:Below W.heap.size W w3:=g8 hb3 (bj W);dsimp only;clear hHeld hb3;refine hK.out _ _ (S3) (λhHeld=>?_);clear hK K S3;try simp only[ly]
 refine rd 5 (λK hK=>?_);go_simp
 (with_reducible refine(SE.out _ B3).mono ?_)
 rintro e w4⟨v,er,rfl,hQ4,hk4⟩;have S4:=KC.out _ w4 hk4.out hHeld;dsimp only;clear hHeld hk4 B3;refine hK.out _ _ (S4) (λhHeld=>?_);clear hK K S4;try simp only[ly]
 refine tk 6 ?_ (hy:=by(intro w hSw;go_simp;(try with_reducible rfl)));try simp only[ly]
 refine tk 7 ?_ (hy:=by(intro w hSw;go_simp;(try with_reducible rfl)));try simp only[ly]
 refine tk 8 ?_ (hy:=by(intro w hSw;go_simp;(try with_reducible rfl)));try simp only[ly]
 refine tk 9 ?_ (hy:=by(intro w hSw;go_simp;(try with_reducible rfl)));try simp only[ly]
 refine wpAnyH_done (by kernel_rfl) ?_ _;clear hHeld SE HO KC;go_wp2_with fail;exact hQ4.out⟩
theorem between_at{c9 r1 p1 r2 p2 nS:Nat}(w:World)(hm1:2<=c9)(hm2:c9<=40000)(E:Prop)(φ ψ:Env->Bool)
  (CA:Hd (∀b9 a M W ns,w.heap.size<=b9->Below w.heap.size w W->Ar b9 a M 14 c9 W ns->Calls prog 59 #[.pointer (some ⟨a,0,none⟩),.pointer (some ⟨r1,0,none⟩),.pointer (some ⟨p1,0,none⟩),.pointer (some ⟨nS,0,none⟩)] W (SPostD E b9 a M c9 φ W ns)))
  (CB:Hd (∀b9 a M W ns,w.heap.size<=b9->Below w.heap.size w W->Ar b9 a M 14 c9 W ns->Calls prog 62 #[.pointer (some ⟨a,0,none⟩),.pointer (some ⟨r2,0,none⟩),.pointer (some ⟨p2,0,none⟩),.pointer (some ⟨nS,0,none⟩)] W (SPostD E b9 a M c9 ψ W ns))) :
  Calls prog 58 #[.int .i64 (c9:Int),.func (.func 59) #[] #[.pointer (some ⟨r1,0,none⟩),.pointer (some ⟨p1,0,none⟩),.pointer (some ⟨nS,0,none⟩)],.func (.func 62) #[] #[.pointer (some ⟨r2,0,none⟩),.pointer (some ⟨p2,0,none⟩),.pointer (some ⟨nS,0,none⟩)]] w λe w'=>BtPost E φ ψ e/\Below w.heap.size w w':=by
 have NW:Hd (Calls prog 30 #[.int .i64 14,.int .i64 (c9:Int)] (w.alloc zc) λe w'=>∃a M,e=.returned (.tuple #[.pointer (some ⟨a,0,none⟩),.int .i64 0])/\Ar (w.alloc zc).heap.size a M 14 c9 w' [(14,0,0),(14,1,1)]/\Below (w.alloc zc).heap.size (w.alloc zc) w'):=⟨eT (v:=14) (m:=c9) _ (by omega) (by omega) hm1 hm2⟩;have D1:=Below.alloc' (Below.refl w.heap.size w) zc;go_enter func58,ntmps58;go_wp2_with fail;refine NW.out.mono ?_;rintro e w2⟨a,M,rfl,A2,hb2⟩;have Q2:Loc (ca _ a M 14 c9) w2 w.heap.size #[.int .i64 0,.int .i64 0,.int .i64 0,.int .i64 0] 29:=A2.locOld (by simp) ((hb2.block _ (by simp)).trans (Go.heap_alloc_new _ _));have D2:=g8 hb2 D1;have hbs:w.heap.size<=(w.alloc zc).heap.size:=by simp
 clear hb2 D1 NW;generalize (w.alloc zc).heap.size=b9 at *;go_wp2_with fail;refine(CA.out b9 a M w2 _ hbs D2 A2).mono ?_;rintro e w3⟨ns3,v3,er3,rfl,A3,K3,X3,R3⟩;have Q3:=Q2.kp K3;have D3:=D2.trans ((A2.kp_below K3).mono hbs);clear Q2 D2 A2 K3 X3 CA;rcases R3.out.symm with⟨rfl,rfl,hE⟩|⟨rfl,f,rfl,lf,ef⟩
 ·obtain⟨⟨q0,q1,q2,q3⟩,qf,ql⟩:=Q3.four';clear R3 Q3 A3;go_wp2_with fail;refine bodyPost_ret (v:=.tuple #[zp,.int .i64 0,.int .i64 6]) (by simp[results,results58,go_sem,q0,q1,q2,q3]) rfl ⟨Or.inl ⟨rfl,hE⟩,?_⟩
  go_grown
 clear R3;go_wp2_with fail;refine(CB.out b9 a M w3 _ hbs D3 A3).mono ?_;rintro e w4⟨ns4,v4,er4,rfl,A4,K4,X4,R4⟩;have Q4:=Q3.kp K4;have D4:=D3.trans ((A3.kp_below K4).mono hbs);have lf4:f<ns4.length:=Nat.lt_of_lt_of_le lf X4.len;have ef4:Hd (∀x,ev ns4 f x=φ x):=⟨λx=>(X4.ev A3.wf A4.wf f lf x).trans (ef x)⟩;clear Q3 D3 A3 K4 X4 CB lf ef;rcases R4.out.symm with⟨rfl,rfl,hE⟩|⟨rfl,g,rfl,lg,eg⟩
 ·obtain⟨⟨q0,q1,q2,q3⟩,qf,ql⟩:=Q4.four';clear R4 Q4 A4;go_wp2_with fail;refine bodyPost_ret (v:=.tuple #[zp,.int .i64 0,.int .i64 6]) (by simp[results,results58,go_sem,q0,q1,q2,q3]) rfl ⟨Or.inl ⟨rfl,hE⟩,?_⟩
  go_grown
 have eg4:Hd (∀x,ev ns4 g x=ψ x):=⟨eg⟩;clear R4 eg;go_wp2_with fail;refine(sN A4 lf4 lg).mono ?_;rintro e w5⟨c,ok,rfl,T5,A5,K5⟩;have Q5:=Q4.kp K5;have D5:=D4.trans ((A4.kp_below K5).mono hbs);clear Q4 D4 A4 K5;cases ok
 ·have fin:Hd (BtPost E φ ψ (.returned (.tuple #[zp,.int .i64 0,.int .i64 0]))):=⟨Or.inr (Or.inl ⟨rfl,λx=>by
   rcases T5.out with⟨rfl,_⟩|⟨_,h,_⟩
   ·rw[<- ef4.out,<- eg4.out]
   ·cases h⟩)⟩
  obtain⟨⟨q0,q1,q2,q3⟩,qf,ql⟩:=Q5.four';clear T5 Q5 A5;go_wp2_with fail;refine bodyPost_ret (v:=.tuple #[zp,.int .i64 0,.int .i64 0]) (by simp[results,results58,go_sem,q0,q1,q2,q3]) rfl ⟨fin.out,?_⟩
  go_grown
 have least:Hd (dK 16384 (λc=>φ (envOf 14 c)) (λc=>ψ (envOf 14 c)) c):=⟨by
  rcases T5.out with⟨_,_,h⟩|⟨_,_,h⟩
  ·cases h
  ·obtain⟨h1,h2,h3⟩:=h;refine⟨h1,?_,λd hd=>?_⟩
   ·show φ _≠ψ _;rw[<- ef4.out,<- eg4.out];exact h2
   ·show φ _=ψ _;rw[<- ef4.out,<- eg4.out];exact h3 d hd⟩
 have hc:c<16384:=least.out.1;have EV:Hd (Calls prog 42 #[.pointer (some ⟨a,0,none⟩),.int .i64 (f:Int),.int .i64 (c:Int)] _ _):=⟨kq A5 lf4 (b:=c) hc⟩;clear EV;clear T5;have OF:Hd (∀w,Calls prog 47 #[.int .i64 (c:Int)] w λe w'=>e=.returned (.tuple #[pk ((c / 1024:Nat):Int) ((c / 64 % 16:Nat):Int) ((c / 8 % 8:Nat):Int) ((c % 8:Nat):Int),.int .i64 0])/\Below w.heap.size w w'):=⟨λw=>sO c w hc⟩;have FIN:Hd (∀k:Int,k=(if φ (envOf 14 c)then 1 else 2)->BtPost E φ ψ (.returned (.tuple #[pk ((c / 1024:Nat):Int) ((c / 64 % 16:Nat):Int) ((c / 8 % 8:Nat):Int) ((c % 8:Nat):Int),.int .i64 k,.int .i64 0]))):=⟨λk hk=>Or.inr (Or.inr ⟨c,by rw[hk],least.out⟩)⟩;clear least;generalize c / 1024=p0 at *;generalize c / 64 % 16=p1 at *;generalize c / 8 % 8=p2 at *;generalize c % 8=p3 at *;go_wp2_with fail;refine(OF.out _).mono ?_;rintro e w6⟨rfl,hb6⟩;have D6:=g8 hb6 D5;have Q6:=Q5.below A5 hb6;have A6:=A5.below hb6;have A7:=A6.alloc (.cells #[.int .i64 (p0:Int),.int .i64 (p1:Int),.int .i64 (p2:Int),.int .i64 (p3:Int)] 29);have L7:=A6.loc #[.int .i64 (p0:Int),.int .i64 (p1:Int),.int .i64 (p2:Int),.int .i64 (p3:Int)] 29;have Q7:=Q6.kp (Ar.kalloc' A6 (.cells #[.int .i64 (p0:Int),.int .i64 (p1:Int),.int .i64 (p2:Int),.int .i64 (p3:Int)] 29));have D7:=Below.alloc' D6 (.cells #[.int .i64 (p0:Int),.int .i64 (p1:Int),.int .i64 (p2:Int),.int .i64 (p3:Int)] 29);have EV:Hd (Calls prog 42 #[.pointer (some ⟨a,0,none⟩),.int .i64 (f:Int),.int .i64 (c:Int)] (w6.alloc (.cells #[.int .i64 (p0:Int),.int .i64 (p1:Int),.int .i64 (p2:Int),.int .i64 (p3:Int)] 29)) λe w'=>e=.returned (.tuple #[.bool (ev ns4 f (envOf 14 c)),.int .i64 0])/\Ar b9 a M 14 c9 w' ns4/\Kp (ca b9 a M 14 c9) (w6.alloc (.cells #[.int .i64 (p0:Int),.int .i64 (p1:Int),.int .i64 (p2:Int),.int .i64 (p3:Int)] 29)) w'):=⟨kq A7 lf4 (b:=c) hc⟩;have ev7:=ef4.out (envOf 14 c);rw[ev7]at EV;clear hb6 D5 Q5 A5 Q6 A6 D6 ev7 OF;go_wp2_with fail;refine EV.out.mono ?_;rintro e w8⟨rfl,A8,K8⟩;have Q8:=Q7.kp K8;have L8:=L7.kp K8;have D8:=D7.trans ((A7.kp_below K8).mono hbs);obtain⟨⟨q0,q1,q2,q3⟩,qf,ql⟩:=Q8.four';obtain⟨⟨l0,l1,l2,l3⟩,lf',ll⟩:=L8.four';clear EV A7 A8 K8 Q7 L7 D7 Q8 L8;cases hphi:φ (envOf 14 c)
 ·have fin:=FIN.out 2 (by rw[hphi];rfl);clear FIN;go_wp2_with fail;refine bodyPost_ret (v:=.tuple #[pk (p0:Int) (p1:Int) (p2:Int) (p3:Int),.int .i64 2,.int .i64 0]) (by simp[results,results58,go_sem,q0,q1,q2,q3]) rfl ⟨fin,?_⟩
  go_grown
 ·have fin:=FIN.out 1 (by rw[hphi];rfl);clear FIN;go_wp2_with fail;refine bodyPost_ret (v:=.tuple #[pk (p0:Int) (p1:Int) (p2:Int) (p3:Int),.int .i64 1,.int .i64 0]) (by simp[results,results58,go_sem,q0,q1,q2,q3]) rfl ⟨fin,?_⟩
  go_grown
def i6(ds:List Dv)(ls:List Lk)(s:List UInt8):Int:=if netV ds ls=0 then(if hostFrom ds s 0<0 then 4 else 0)else netV ds ls
def sliceD(ds:List Dv)(ls:List Lk)(s:List UInt8):List Dv:=e8 ds (wholeF ds ls (hostFrom ds s 0))
def sliceL(ds:List Dv)(ls:List Lk)(s:List UInt8):List Lk:=e9 ls (wholeF ds ls (hostFrom ds s 0))
def eW(w:World)(ds:List Dv)(ls:List Lk)(s:List UInt8)(e:Ending)(w':World):Prop :=
 Below w.heap.size w w'/\((i6 ds ls s≠0/\e=.returned (.tuple #[.agg #[nilS,nilS],.int .i64 (i6 ds ls s)])) \/
  (i6 ds ls s=0/\∃A c B c',e=.returned (.tuple #[.agg #[.slice A (sliceD ds ls s).length c,.slice B (sliceL ds ls s).length c'],.int .i64 0])/\CpAt w.heap.size w' A c B c' (sliceD ds ls s) (sliceL ds ls s)))
abbrev set2(W:World)(k:Nat)(a b:Value):World:=(W.setCell ⟨k,0,none⟩ a).setCell ⟨k,1,none⟩ b
theorem Bk.set2{W:World}{k:Nat}{t:TypeId}{x0 x1 a b:Value}(h:Bk W k #[x0,x1] t):Bk (set2 W k a b) k #[a,b] t:=by
 have:=(h.setS (j:=0) a).setS (j:=1) b;simpa using this
theorem jF(A B:Option Addr)(cap d8:Nat)(ds:List Dv)(ls:List Lk)(s:ByteArray)(w:World)(hD:Hid (Devs w.heap.size w (.slice A ds.length cap) ds))(hL:Hid (Links w.heap.size w (.slice B ls.length d8) ls)) :
  Calls prog 57 #[.agg #[.slice A ds.length cap,.slice B ls.length d8],.string s] w (eW w ds ls s.toList):=by
 have D0:Below w.heap.size w ((w.alloc (.cells #[.slice A ds.length cap,.slice B ls.length d8] 25)).alloc (.cells #[nilS,nilS] 25)):=Below.alloc' (Below.alloc' (Below.refl _ _) _) _;have R0:=E0 (w.alloc (.cells #[.slice A ds.length cap,.slice B ls.length d8] 25)) #[nilS,nilS] 25 (w.heap.size+1) (by simp);have PO:Hid (∀W,Below w.heap.size w W->w.heap.size+1<W.heap.size->Bk W (w.heap.size+1) #[nilS,nilS] 25->Calls prog 105 #[.agg #[.slice A ds.length cap,.slice B ls.length d8],.string s] W λe w'=>∃A1 n1 c1 B1 n2 c2 C1 n3 c3 h q er,e=.returned (.tuple #[bV (.slice A1 n1 c1) (.slice B1 n2 c2) (.slice C1 n3 c3) h q,.int .i64 er])/\Hid (eW w ds ls s.toList (.returned (.tuple #[.agg #[.slice A1 n1 c1,.slice B1 n2 c2],.int .i64 er])) ((set2 w' (w.heap.size+1) (.slice A1 n1 c1) (.slice B1 n2 c2)).alloc (.cells #[.slice A1 n1 c1,.slice B1 n2 c2,.slice C1 n3 c3,.int .i64 h,.int .i64 q] 184)))/\Bk w' (w.heap.size+1) #[nilS,nilS] 25):=λW h hlt hR =>
  (tB A B cap d8 ds ls s W ((hD.out.below h).mono h.size) ((hL.out.below h).mono h.size)).mono λe w' ⟨hb,hc⟩=>by
    have hR':=Bk.keep hb hR;have bb:∀(x y z:Value) (h q:Int),Below w.heap.size w ((set2 w' (w.heap.size+1) x y).alloc (.cells #[x,y,z,.int .i64 h,.int .i64 q] 184)):=λx y z h' q=>Below.alloc' (r9 (r9 (g8 hb h) (by omega)) (by omega)) _;rcases hc with⟨hz,rfl⟩|⟨hz,hn,rfl⟩|⟨hz,k,hk,A1,c1,B1,c1',g,q,h1,rfl,hC⟩
    ·exact⟨_,_,_,_,_,_,_,_,_,_,_,_,rfl,⟨bb _ _ _ _ _,Or.inl ⟨by simp[i6,hz],by simp[i6,hz]⟩⟩,hR'⟩
    ·exact⟨_,_,_,_,_,_,_,_,_,_,_,_,rfl,⟨bb _ _ _ _ _,Or.inl ⟨by simp[i6,hz,hn],by simp[i6,hz,hn]⟩⟩,hR'⟩
    ·have hnn:¬hostFrom ds s.toList 0<0:=by omega
     refine⟨_,_,_,_,_,_,_,_,_,_,_,_,rfl,⟨bb _ _ _ _ _,Or.inr ⟨by simp[i6,hz,hnn],A1,c1,B1,c1',by simp only[sliceD,sliceL,hk],?_⟩⟩,hR'⟩;simp only[sliceD,sliceL,hk];exact(((hC.low hlt).low hlt).below (Below.alloc' (Below.refl _ _) _)).down h.size
 clear hD hL;go_enter func57,ntmps57;go_wp2_with fail;refine(PO.out _ D0 (by simp) R0).mono ?_;rintro e w1⟨A1,n1,c1,B1,n2,c2,C1,n3,c3,h,q,er,rfl,hO,R1⟩;clear D0 R0 PO;have hlt:=R1.lt;obtain⟨r0,r1⟩:=R1.two;have f0:=R1.fz 0;have f1:=R1.fz 1;go_wp2_with fail;have Q:=(R1.set2 (a:=.slice A1 n1 c1) (b:=.slice B1 n2 c2)).alloc (.cells #[.slice A1 n1 c1,.slice B1 n2 c2,.slice C1 n3 c3,.int .i64 h,.int .i64 q] 184);obtain⟨s0,s1⟩:=Q.two;refine bodyPost_ret (v:=.tuple #[.agg #[.slice A1 n1 c1,.slice B1 n2 c2],.int .i64 er]) (by simp[results,results57,go_sem,s0,s1]) rfl ?_;exact hO.out
theorem BtPost.parts{E:Prop}{φ ψ:Env->Bool}{e:Ending}(h:BtPost E φ ψ e):∃x0 x1 x2 x3 k er:Int,e=.returned (.tuple #[pk x0 x1 x2 x3,.int .i64 k,.int .i64 er]):=by
 rcases h with⟨rfl,_⟩|⟨rfl,_⟩|⟨c,rfl,_⟩
 ·exact⟨0,0,0,0,0,6,rfl⟩
 ·exact⟨0,0,0,0,0,0,rfl⟩
 ·exact⟨_,_,_,_,_,_,rfl⟩
def dE(ds:List Dv)(ls:List Lk)(K:Nat):Prop:=(∀j,j<K->n8 ds ls j<n8 ds ls (j+1))/\∀a b,a<10->b<4->g9 ds ls (K+1) a b=g9 ds ls K a b
noncomputable abbrev aG (ds:List Dv)(ls:List Lk)(s:List UInt8)(K:Nat):Env->Bool:=atF (sliceD ds ls s) (sliceL ds ls s) K (findFrom (sliceD ds ls s) s 0) 0
theorem dF{w:World}{k:Nat}{t:TypeId}{a b c d:Value}(h:Bk w k #[a,b,c,d] t):(w.cell? ⟨k,0,none⟩=some a/\w.cell? ⟨k,1,none⟩=some b/\w.cell? ⟨k,2,none⟩=some c/\w.cell? ⟨k,3,none⟩=some d)/\(∀j,w.frozen? ⟨k,j,none⟩=false)/\k<w.heap.size:=⟨⟨h.at 0,h.at 1,h.at 2,h.at 3⟩,h.fz,h.lt⟩
def AtX(da:List Dv)(la:List Lk)(db:List Dv)(lb:List Lk)(s:List UInt8)(m x0 x1 x2 x3 k er:Int):Prop :=
 (i6 da la s≠0/\x0=0/\x1=0/\x2=0/\x3=0/\k=0/\er=i6 da la s) \/
 (i6 da la s=0/\i6 db lb s≠0/\x0=0/\x1=0/\x2=0/\x3=0/\k=0/\er=i6 db lb s) \/
 (i6 da la s=0/\i6 db lb s=0/\¬(2<=m/\m<=40000)/\x0=0/\x1=0/\x2=0/\x3=0/\k=0/\er=1) \/
 (i6 da la s=0/\i6 db lb s=0/\(2<=m/\m<=40000)/\((x0=0/\x1=0/\x2=0/\x3=0/\k=0/\er=6)\/∃Ka Kb,dE (sliceD da la s) (sliceL da la s) Ka/\dE (sliceD db lb s) (sliceL db lb s) Kb/\BtPost True (aG da la s Ka) (aG db lb s Kb) (.returned (.tuple #[pk x0 x1 x2 x3,.int .i64 k,.int .i64 er]))))
theorem jG{ds:List Dv}{ls:List Lk}{s:List UInt8}(h:i6 ds ls s=0):netV ds ls=0/\∃i:Nat,hostFrom ds s 0=(i:Int)/\i<ds.length:=by
 unfold i6 at h
 split at h
 ·rename_i hz
  split at h
  ·simp at h
  ·rename_i hh
   rcases fR ds s ds.length 0 (by omega)with e|e
   ·exact absurd e hh
   ·exact⟨hz,e⟩
 ·rename_i hz
  exact absurd h hz
theorem eX{ds:List Dv}{ls:List Lk}{s:List UInt8}(h:i6 ds ls s=0):netV (sliceD ds ls s) (sliceL ds ls s)=0:=by
 obtain⟨hz,i,hi,hl⟩:=jG h;unfold sliceD sliceL;rw[hi];exact ib hz (ia hz hl).1
theorem at_x(A B C D:Option Addr)(cap d8 cq cq':Nat)(da:List Dv)(la:List Lk)(db:List Dv)(lb:List Lk)(s:ByteArray)(m:Int)(w:World)(hD:Hid (Devs w.heap.size w (.slice A da.length cap) da))(hL:Hid (Links w.heap.size w (.slice B la.length d8) la))(hE:Hid (Devs w.heap.size w (.slice C db.length cq) db))(hM:Hid (Links w.heap.size w (.slice D lb.length cq') lb)) :
  Calls prog 23 #[.agg #[.slice A da.length cap,.slice B la.length d8],.agg #[.slice C db.length cq,.slice D lb.length cq'],.string s,.int .i64 m] w λe w'=>(∃x0 x1 x2 x3 k er:Int,e=.returned (.tuple #[pk x0 x1 x2 x3,.int .i64 k,.int .i64 er])/\Hid (AtX da la db lb s.toList m x0 x1 x2 x3 k er))/\Below w.heap.size w w':=by
 have D0:Below w.heap.size w ((((w.alloc (.cells #[.slice A da.length cap,.slice B la.length d8] 25)).alloc (.cells #[.slice C db.length cq,.slice D lb.length cq'] 25)).alloc (.cells #[.string s] 9)).alloc zc):=Below.alloc' (Below.alloc' (Below.alloc' (Below.alloc' (Below.refl _ _) _) _) _) _;have N0:=(((i7 w #[.slice A da.length cap,.slice B la.length d8] 25).alloc (.cells #[.slice C db.length cq,.slice D lb.length cq'] 25)).alloc (.cells #[.string s] 9)).alloc zc;have M0:=((E0 (w.alloc (.cells #[.slice A da.length cap,.slice B la.length d8] 25)) #[.slice C db.length cq,.slice D lb.length cq'] 25 (w.heap.size+1) (by simp)).alloc (.cells #[.string s] 9)).alloc zc;have S0:=(E0 ((w.alloc (.cells #[.slice A da.length cap,.slice B la.length d8] 25)).alloc (.cells #[.slice C db.length cq,.slice D lb.length cq'] 25)) #[.string s] 9 (w.heap.size+1+1) (by simp)).alloc zc;have Z0:=E0 (((w.alloc (.cells #[.slice A da.length cap,.slice B la.length d8] 25)).alloc (.cells #[.slice C db.length cq,.slice D lb.length cq'] 25)).alloc (.cells #[.string s] 9)) #[.int .i64 0,.int .i64 0,.int .i64 0,.int .i64 0] 29 (w.heap.size+1+1+1) (by simp);have SA:Hid (∀W,Below w.heap.size w W->Calls prog 57 #[.agg #[.slice A da.length cap,.slice B la.length d8],.string s] W (eW W da la s.toList)):=λW h=>jF A B cap d8 da la s W ((hD.out.below h).mono h.size) ((hL.out.below h).mono h.size);have SB:Hid (∀W,Below w.heap.size w W->Calls prog 57 #[.agg #[.slice C db.length cq,.slice D lb.length cq'],.string s] W (eW W db lb s.toList)):=λW h=>jF C D cq cq' db lb s W ((hE.out.below h).mono h.size) ((hM.out.below h).mono h.size);clear hD hL hE hM;go_enter func23,ntmps23;obtain⟨n0,n1⟩:=N0.two;have s0:=S0.one.1;go_wp2_with fail;refine(SA.out _ D0).mono ?_;rintro e w1⟨hb1,hc1⟩;have D1:=g8 hb1 D0;have M1:=Bk.keep hb1 M0;have S1:=Bk.keep hb1 S0;have Z1:=Bk.keep hb1 Z0;clear hb1 D0 M0 S0 Z0 N0 SA n0 n1 s0;rcases hc1 with⟨he1,rfl⟩|⟨he1,A1,c1,B1,c1',rfl,C1⟩
 ·clear SB;have he1':(i6 da la s.toList != 0)=true:=by simpa using he1
  have hx:Below w1.heap.size w1 (w1.alloc (.cells #[nilS,nilS] 25)):=Below.alloc' (Below.refl _ _) _;have D7:=g8 hx D1;have Z7:=Bk.keep hx Z1;clear hx D1 M1 S1 Z1;go_upto_region 3 with fail;generalize w1.alloc (.cells #[nilS,nilS] 25)=w7 at *;obtain⟨⟨q0,q1,q2,q3⟩,qf,ql⟩:=dF Z7;go_wp2_with fail;exact bodyPost_ret (v:=.tuple #[zp,.int .i64 0,.int .i64 (i6 da la s.toList)]) (by simp[results,results23,go_sem,q0,q1,q2,q3]) rfl ⟨⟨0,0,0,0,0,_,rfl,Or.inl ⟨he1,rfl,rfl,rfl,rfl,rfl,rfl⟩⟩,by go_grown⟩
 have hx:Below w1.heap.size w1 (w1.alloc (.cells #[.slice A1 (sliceD da la s.toList).length c1,.slice B1 (sliceL da la s.toList).length c1'] 25)):=Below.alloc' (Below.refl _ _) _;have D2:=g8 hx D1;have M2:=Bk.keep hx M1;have S2:=Bk.keep hx S1;have Z2:=Bk.keep hx Z1;have P2:=i7 w1 #[.slice A1 (sliceD da la s.toList).length c1,.slice B1 (sliceL da la s.toList).length c1'] 25;have C2:=C1.below hx;have he1:Hid (i6 da la s.toList=0):=he1;clear hx D1 M1 S1 Z1 C1;go_upto_region 4 with fail;generalize w1.alloc (.cells #[.slice A1 (sliceD da la s.toList).length c1,.slice B1 (sliceL da la s.toList).length c1'] 25)=w2 at *;generalize w1.heap.size=p1 at *;obtain⟨m0,m1⟩:=M2.two;have s0:=S2.one.1;have lm:=M2.lt;have ls:=S2.lt;go_wp2_with fail;refine(SB.out _ D2).mono ?_;rintro e w3⟨hb3,hc3⟩;have D3:=g8 hb3 D2;have S3:=Bk.keep hb3 S2;have Z3:=Bk.keep hb3 Z2;have P3:=Bk.keep hb3 P2;have C3:=C2.below hb3;clear hb3 D2 M2 S2 Z2 P2 C2 SB m0 m1 s0 lm ls;rcases hc3 with⟨he3,rfl⟩|⟨he3,A3,c3,B3,c3',rfl,E3⟩
 ·have he3':(i6 db lb s.toList != 0)=true:=by simpa using he3
  have hx:Below w3.heap.size w3 (w3.alloc (.cells #[nilS,nilS] 25)):=Below.alloc' (Below.refl _ _) _;have D7:=g8 hx D3;have Z7:=Bk.keep hx Z3;clear hx D3 S3 Z3 P3 C3;go_upto_region 6 with fail;generalize w3.alloc (.cells #[nilS,nilS] 25)=w7 at *;obtain⟨⟨q0,q1,q2,q3⟩,qf,ql⟩:=dF Z7;go_wp2_with fail;exact bodyPost_ret (v:=.tuple #[zp,.int .i64 0,.int .i64 (i6 db lb s.toList)]) (by simp[results,results23,go_sem,q0,q1,q2,q3]) rfl ⟨⟨0,0,0,0,0,_,rfl,Or.inr (Or.inl ⟨he1.out,he3,rfl,rfl,rfl,rfl,rfl,rfl⟩)⟩,by go_grown⟩
 have hx:Below w3.heap.size w3 (w3.alloc (.cells #[.slice A3 (sliceD db lb s.toList).length c3,.slice B3 (sliceL db lb s.toList).length c3'] 25)):=Below.alloc' (Below.refl _ _) _;have D4:=g8 hx D3;have S4:=Bk.keep hx S3;have Z4:=Bk.keep hx Z3;have P4:=Bk.keep hx P3;have Q4:=i7 w3 #[.slice A3 (sliceD db lb s.toList).length c3,.slice B3 (sliceL db lb s.toList).length c3'] 25;have C4:=C3.below hx;have E4:=E3.below hx;have he3:Hid (i6 db lb s.toList=0):=he3;clear hx D3 S3 Z3 P3 C3 E3;go_upto_region 7 with fail;generalize w3.alloc (.cells #[.slice A3 (sliceD db lb s.toList).length c3,.slice B3 (sliceL db lb s.toList).length c3'] 25)=w4 at *;generalize w3.heap.size=p2 at *;have FH:Hid (∀Ka Kb e,2<=m/\m<=40000->dE (sliceD da la s.toList) (sliceL da la s.toList) Ka->dE (sliceD db lb s.toList) (sliceL db lb s.toList) Kb->BtPost True (aG da la s.toList Ka) (aG db lb s.toList Kb) e->∃x0 x1 x2 x3 k er:Int,e=.returned (.tuple #[pk x0 x1 x2 x3,.int .i64 k,.int .i64 er])/\Hid (AtX da la db lb s.toList m x0 x1 x2 x3 k er)):=λKa Kb e hm h1 h2 h3=>by
  obtain⟨x0,x1,x2,x3,k,er,rfl⟩:=h3.parts;exact⟨x0,x1,x2,x3,k,er,rfl,Or.inr (Or.inr (Or.inr ⟨he1.out,he3.out,hm,Or.inr ⟨Ka,Kb,h1,h2,h3⟩⟩))⟩
 have FE:Hid (∀er:Int,er=(if 2<=m/\m<=40000 then 6 else 1)->AtX da la db lb s.toList m 0 0 0 0 0 er):=λer h=>by
  by_cases hm:2<=m/\m<=40000
  ·rw[if_pos hm]at h;exact Or.inr (Or.inr (Or.inr ⟨he1.out,he3.out,hm,Or.inl ⟨rfl,rfl,rfl,rfl,rfl,h⟩⟩))
  ·rw[if_neg hm]at h;exact Or.inr (Or.inr (Or.inl ⟨he1.out,he3.out,hm,rfl,rfl,rfl,rfl,rfl,h⟩))
 have NA:Hid (netV (sliceD da la s.toList) (sliceL da la s.toList)=0):=eX he1.out;have NB:Hid (netV (sliceD db lb s.toList) (sliceL db lb s.toList)=0):=eX he3.out;clear he1 he3;unfold aG at FH;generalize sliceD da la s.toList=dx at *;generalize sliceL da la s.toList=lx at *;generalize sliceD db lb s.toList=dy at *;generalize sliceL db lb s.toList=ly at *;have RA:Hid (∀W,Below w4.heap.size w4 W->Calls prog 6 #[.agg #[.slice A1 dx.length c1,.slice B1 lx.length c1'],.int .i64 m] W λe w'=>Below W.heap.size W w'/\((∃(bR R MR mo K:Nat) (sl:Value) (xs:List Value) (ns:List Nd) (s:Nat->Nat->Nat->Nat),e=.returned (.tuple #[.pointer (some ⟨R,0,none⟩),.int .i64 0])/\Hd ((2<=m/\m<=40000)/\RcF dx lx bR R MR mo K sl xs ns s w'))\/∃er:Int,e=.returned (.tuple #[.pointer none,.int .i64 er])/\er≠0/\er=(if 2<=m/\m<=40000 then 6 else 1))):=λW h=>(kg A1 B1 c1 c1' dx lx m W (C4.below h).devs (C4.below h).links).mono λe w' ⟨h1,h2⟩=>⟨h1,h2.imp (λ⟨R,a1,a2⟩=>by
   obtain⟨_,hm,bR,MR,mo,K,sl,xs,ns,s,a3⟩:=a2.out;exact⟨bR,R,MR,mo,K,sl,xs,ns,s,a1,⟨hm,a3⟩⟩) λ⟨er,a1,a2⟩=>by
   obtain⟨b1,b2,b3,_⟩:=a2.out;refine⟨er,a1,b1,?_⟩
   split
   ·exact b2 NA.out ‹_›
   ·exact b3 NA.out ‹_›⟩
 have RB:Hid (∀W,Below w4.heap.size w4 W->Calls prog 6 #[.agg #[.slice A3 dy.length c3,.slice B3 ly.length c3'],.int .i64 m] W λe w'=>Below W.heap.size W w'/\((∃(bR R MR mo K:Nat) (sl:Value) (xs:List Value) (ns:List Nd) (s:Nat->Nat->Nat->Nat),e=.returned (.tuple #[.pointer (some ⟨R,0,none⟩),.int .i64 0])/\Hd ((2<=m/\m<=40000)/\RcF dy ly bR R MR mo K sl xs ns s w'))\/∃er:Int,e=.returned (.tuple #[.pointer none,.int .i64 er])/\er≠0/\er=(if 2<=m/\m<=40000 then 6 else 1))):=λW h=>(kg A3 B3 c3 c3' dy ly m W (E4.below h).devs (E4.below h).links).mono λe w' ⟨h1,h2⟩=>⟨h1,h2.imp (λ⟨R,a1,a2⟩=>by
   obtain⟨_,hm,bR,MR,mo,K,sl,xs,ns,s,a3⟩:=a2.out;exact⟨bR,R,MR,mo,K,sl,xs,ns,s,a1,⟨hm,a3⟩⟩) λ⟨er,a1,a2⟩=>by
   obtain⟨b1,b2,b3,_⟩:=a2.out;refine⟨er,a1,b1,?_⟩
   split
   ·exact b2 NB.out ‹_›
   ·exact b3 NB.out ‹_›⟩
 obtain⟨p0,p0'⟩:=P4.two;have lp:=P4.lt;go_wp2_with fail;refine(RA.out _ (Below.refl _ _)).mono ?_;rintro e w5⟨hb5,hc5⟩;have B5:Below w4.heap.size w4 w5:=hb5;clear hb5 RA p0 p0' lp;rcases hc5.symm with⟨er,rfl,he5,hee⟩|⟨bR,R,MR,mo,K,sl,xs,ns,sF,rfl,hF⟩
 ·have he5':(er != 0)=true:=by simpa using he5
  have FE2:Hid (AtX da la db lb s.toList m 0 0 0 0 0 er):=FE.out er hee;clear hee FE;have D5:=g8 B5 D4;have Z5:=Bk.keep B5 Z4;have hx:Below w5.heap.size w5 (w5.alloc (.cells #[.pointer none] 33)):=Below.alloc' (Below.refl _ _) _;have D6:=g8 hx D5;have Z6:=Bk.keep hx Z5;clear hc5 D5 Z5 hx B5 RB FH;go_upto_region 9 with fail;generalize w5.alloc (.cells #[.pointer none] 33)=w6 at *;obtain⟨⟨q0,q1,q2,q3⟩,qf,ql⟩:=dF Z6;go_wp2_with fail;exact bodyPost_ret (v:=.tuple #[zp,.int .i64 0,.int .i64 er]) (by simp[results,results23,go_sem,q0,q1,q2,q3]) rfl ⟨⟨0,0,0,0,0,er,rfl,FE2⟩,by go_grown⟩
 have hx:Below w5.heap.size w5 (w5.alloc (.cells #[.pointer (some ⟨R,0,none⟩)] 33)):=Below.alloc' (Below.refl _ _) _;have B6:=g8 hx B5;have F6:=hF.out.2.below hx;have hm:Hid (2<=m/\m<=40000):=hF.out.1;have R6:=i7 w5 #[.pointer (some ⟨R,0,none⟩)] 33;clear hc5 hF hx B5;go_upto_region 10 with fail;generalize w5.alloc (.cells #[.pointer (some ⟨R,0,none⟩)] 33)=w6 at *;generalize w5.heap.size=r1 at *;obtain⟨p0,p0'⟩:=(Bk.keep B6 Q4).two;have lp:=(Bk.keep B6 Q4).lt;go_wp2_with fail;refine(RB.out _ B6).mono ?_;rintro e w7⟨hb7,hc7⟩;have B7:=g8 hb7 B6;have F7:=F6.below hb7;have R7:=Bk.keep hb7 R6;clear hb7 RB p0 p0' lp B6 F6 R6;rcases hc7.symm with⟨er,rfl,he5,hee⟩|⟨bR2,R2,MR2,mo2,K2,sl2,xs2,ns2,sF2,rfl,hF⟩
 ·have he5':(er != 0)=true:=by simpa using he5
  have FE2:Hid (AtX da la db lb s.toList m 0 0 0 0 0 er):=FE.out er hee;clear hee FE;have D5:=g8 B7 D4;have Z5:=Bk.keep B7 Z4;have hx:Below w7.heap.size w7 (w7.alloc (.cells #[.pointer none] 33)):=Below.alloc' (Below.refl _ _) _;have D6:=g8 hx D5;have Z6:=Bk.keep hx Z5;clear hc7 D5 Z5 hx B7 FH F7 R7;go_upto_region 12 with fail;generalize w7.alloc (.cells #[.pointer none] 33)=w8 at *;obtain⟨⟨q0,q1,q2,q3⟩,qf,ql⟩:=dF Z6;go_wp2_with fail;exact bodyPost_ret (v:=.tuple #[zp,.int .i64 0,.int .i64 er]) (by simp[results,results23,go_sem,q0,q1,q2,q3]) rfl ⟨⟨0,0,0,0,0,er,rfl,FE2⟩,by go_grown⟩
 have hx:Below w7.heap.size w7 (w7.alloc (.cells #[.pointer (some ⟨R2,0,none⟩)] 33)):=Below.alloc' (Below.refl _ _) _;have B8:=g8 hx B7;have F8:=F7.below hx;have G8:=hF.out.2.below hx;have R8:=Bk.keep hx R7;have T8:=i7 w7 #[.pointer (some ⟨R2,0,none⟩)] 33;clear hc7 hF hx B7 F7 R7;go_upto_region 13 with fail;generalize w7.alloc (.cells #[.pointer (some ⟨R2,0,none⟩)] 33)=w8 at *;generalize w7.heap.size=r2 at *;have D8:=g8 B8 D4;have S8:=Bk.keep B8 S4;have Z8:=Bk.keep B8 Z4;have P8:=Bk.keep B8 P4;have Q8:=Bk.keep B8 Q4;have V1:AtV w8 r1 p1 (w.heap.size+1+1) R A1 B1 dx.length c1 lx.length c1' s:=⟨R8.one.1,P8.two.1,P8.two.2,S8.one.1,R8.lt,P8.lt,S8.lt⟩;have V2:AtV w8 r2 p2 (w.heap.size+1+1) R2 A3 B3 dy.length c3 ly.length c3' s:=⟨T8.one.1,Q8.two.1,Q8.two.2,S8.one.1,T8.lt,Q8.lt,S8.lt⟩;have BT:Hid (Calls prog 58 #[.int .i64 40000,.func (.func 59) #[] #[.pointer (some ⟨r1,0,none⟩),.pointer (some ⟨p1,0,none⟩),.pointer (some ⟨w.heap.size+1+1,0,none⟩)],.func (.func 62) #[] #[.pointer (some ⟨r2,0,none⟩),.pointer (some ⟨p2,0,none⟩),.pointer (some ⟨w.heap.size+1+1,0,none⟩)]] w8 λe w'=>(∃x0 x1 x2 x3 k er:Int,e=.returned (.tuple #[pk x0 x1 x2 x3,.int .i64 k,.int .i64 er])/\Hid (AtX da la db lb s.toList m x0 x1 x2 x3 k er))/\Below w8.heap.size w8 w'):=(between_at (c9:=40000) (nS:=w.heap.size+1+1) w8 (by omega) (by omega) True _ _ (qn V1 F8 (C4.below B8).devs) (at_set2 V2 G8 (E4.below B8).devs)).mono λe w' ⟨h1,h2⟩=>⟨FH.out K K2 e hm.out ⟨F8.up,F8.fix⟩ ⟨G8.up,G8.fix⟩ h1,h2⟩;clear V1 V2 F8 G8 C4 E4 P8 Q8 R8 T8 S8 B8 FH FE D4 S4 Z4 P4 Q4;have lz:=Z8.lt;go_wp2_with fail;refine BT.out.mono ?_;rintro e w9⟨⟨x0,x1,x2,x3,k,er,rfl,hO⟩,hb9⟩;have D9:=g8 hb9 D8;have Z9:=Bk.keep hb9 Z8;clear BT D8 Z8 hb9 lz;obtain⟨⟨q0,q1,q2,q3⟩,qf,ql⟩:=dF Z9;go_wp2_with fail;exact bodyPost_ret (v:=.tuple #[pk x0 x1 x2 x3,.int .i64 k,.int .i64 er]) (by simp[results,results23,go_sem,q0,q1,q2,q3,pk]) rfl ⟨⟨x0,x1,x2,x3,k,er,rfl,hO⟩,by go_grown⟩
structure Ds1(w:World)(vd vl v:Value)(f:List Int)(W:World):Prop where
 be:Below w.heap.size w W
 bN:Bk W w.heap.size #[vd,vl] 25
 bO:Bk W (w.heap.size+1) #[nilS,nilS] 25
 row:W.ownsRow (w.heap.size+2) 3 1 v f.length (p8 f)
section
variable {w W W':World}{vd vl v:Value}{f:List Int}
theorem Ds1.below(h:Ds1 w vd vl v f W)(hb:Below W.heap.size W W'):Ds1 w vd vl v f W':=⟨g8 hb h.be,Bk.keep hb h.bN,Bk.keep hb h.bO,aB h.row hb⟩
theorem Ds1.app(h:Ds1 w vd vl v f W)(x:Int)(hn:f.length<=100) :
  ∃g cap W1,(Builtin.append_ #[50,50] 50 #[v,.slice (some ⟨W.heap.size,0,none⟩) 1 1]).run prog (W.alloc (.cells #[.int .i64 x] 3))=.ok (.slice (some ⟨g,0,none⟩) (f++[x]).length cap) W1/\Ds1 w vd vl (.slice (some ⟨g,0,none⟩) (f++[x]).length cap) (f++[x]) W1/\∀k c t,Bk W k c t->t≠3->Bk W1 k c t:=by
 have hsz:=h.bO.lt;obtain⟨v',W1,hr,h1,h2,h3,_⟩:=ba mJ mK rfl (by omega) (by omega) 50 h.row (us:=[.int .i64 x]) rfl (by simp[Value.oneCell']) (by omega) (by omega);have hkb:∀k c t,Bk W k c t->t≠3->Bk W1 k c t:=λk c t hb ht=>(h3.block k hb.lt (λe=>by
  obtain⟨_,_,cur,hc⟩:=q9 h.row e.symm;have hb:W.heap[k]?=_:=hb;rw[hb]at hc;cases hc;exact ht rfl)).trans hb
 obtain⟨g,cap,rfl,_⟩:=U7 h1 (by omega);rw[show f.length+1=(f++[x]).length by simp]at hr h1;refine⟨g,cap,W1,hr,⟨h.be.trans (h2.mono (by omega)),(h2.block _ (by omega)).trans h.bN,(h2.block _ (by omega)).trans h.bO,by rw[mI];exact h1⟩,hkb⟩
end
def nl1(x d y:Int)(f:List Int):List Int:=if x=d/\y ∉ f then f++[y]else f
theorem aH(d:Int)(l:Lk)(f:List Int):aZ d l f=nl1 l.b d l.a (nl1 l.a d l.b f):=rfl
theorem cH{x y:Int}{f:List Int}(m:y ∉ f):nl1 x x y f=f++[y]:=if_pos ⟨rfl,m⟩
theorem cI{x d y:Int}{f:List Int}(m:y∈f):nl1 x d y f=f:=if_neg λh=>h.2 m
theorem cJ{x d y:Int}{f:List Int}(t:¬x=d):nl1 x d y f=f:=if_neg λh=>t h.1
theorem qo{ls:List Lk}{n i:Nat}{f:List Int}(h:f.length<=i):H8 ls n i f=f:=by
 cases n with
 | zero=>rfl
 | succ n=>simp[H8,List.getElem?_eq_none h]
theorem qp{ls:List Lk}{n i:Nat}{f:List Int}{d:Int}(h:f[i]?=some d):H8 ls (n+1) i f=H8 ls n (i+1) (o6 ls d ls.length f):=by
 simp[H8,h]
theorem jH(f:List Int)(x:Int):f.any (λy=>y == x)=decide (x∈f):=by
 rw[Bool.eq_iff_iff];simp
structure Ds2(w:World)(vd vl vI:Value)(F:List Int)(vm vk:Value)(gs:List Dv)(ms:List Lk)(W:World):Prop where
 be:Below w.heap.size w W
 bN:Bk W w.heap.size #[vd,vl] 25
 bO:Bk W (w.heap.size+1) #[vm,vk] 25
 row:W.ownsRow (w.heap.size+2) 3 1 vI F.length (p8 F)
 rd:∃cs,W.ownsRow (w.heap.size+2) 56 7 vm gs.length cs/\DvC w gs cs
 rl:W.ownsRow (w.heap.size+2) 96 4 vk ms.length (aC ms)
section
variable {w W W':World}{vd vl vI vm vk:Value}{F:List Int}{gs:List Dv}{ms:List Lk}
theorem Ds2.below(h:Ds2 w vd vl vI F vm vk gs ms W)(hb:Below W.heap.size W W'):Ds2 w vd vl vI F vm vk gs ms W':=by
 obtain⟨cs,h1,h2⟩:=h.rd;exact⟨g8 hb h.be,Bk.keep hb h.bN,Bk.keep hb h.bO,aB h.row hb,⟨cs,aB h1 hb,h2⟩,aB h.rl hb⟩
theorem Ds2.start{v:Value}{f:List Int}(h:Ds1 w vd vl v f W):Ds2 w vd vl v f nilS nilS [] [] W:=⟨h.be,h.bN,h.bO,h.row,⟨[],eu _ _ _,DvC.nil w⟩,eu _ _ _⟩
theorem Ds2.size(h:Ds2 w vd vl vI F vm vk gs ms W):w.heap.size+2<=W.heap.size:=h.bO.lt
theorem Ds2.appD(h:Ds2 w vd vl vI F vm vk gs ms W){nm:ByteArray}{k ad:Int}{pl:Nat}{vb vr vt:Value}{d:Dv}(hd:IsDv w.heap.size w [.string nm,.int .i64 k,.int .i64 ad,.int .u8 (pl:Int),vb,vr,vt] d)(hn:gs.length<=5000) :
  ∃g cq W1,(Builtin.append_ #[22,22] 22 #[vm,.slice (some ⟨W.heap.size,0,none⟩) 1 1]).run prog (W.alloc (.cells #[.string nm,.int .i64 k,.int .i64 ad,.int .u8 (pl:Int),vb,vr,vt] 56))=.ok (.slice (some ⟨g,0,none⟩) (gs.length+1) cq) W1/\Ds2 w vd vl vI F (.slice (some ⟨g,0,none⟩) (gs.length+1) cq) vk (gs++[d]) ms (W1.setCell ⟨w.heap.size+1,0,none⟩ (.slice (some ⟨g,0,none⟩) (gs.length+1) cq))/\W1.cell? ⟨w.heap.size+1,0,none⟩=some vm/\W1.frozen? ⟨w.heap.size+1,0,none⟩=false/\w.heap.size+1<W1.heap.size:=by
 obtain⟨cs,h1,h2⟩:=h.rd;have hsz:=h.size;have one:∀u∈[Value.string nm,.int .i64 k,.int .i64 ad,.int .u8 (pl:Int),vb,vr,vt],u.oneCell'=true:=oneDv _ _ hd;obtain⟨v',W1,hr,q1,q2,q3,_⟩:=ba mN mO rfl (by omega) (by omega) 22 h1 (us:=[.string nm,.int .i64 k,.int .i64 ad,.int .u8 (pl:Int),vb,vr,vt]) rfl one (by omega) hsz;obtain⟨g,cap,rfl,hg1,hg2,_⟩:=U7 q1 (by omega);have m1:Bk W1 (w.heap.size+1) #[vm,vk] 25:=(q2.block _ (by omega)).trans h.bO;have hF:∀i,i≠w.heap.size+1->(W1.setCell ⟨w.heap.size+1,0,none⟩ (.slice (some ⟨g,0,none⟩) (gs.length+1) cap)).heap[i]?=W1.heap[i]?:=λi hi=>Below.heap_setCell W1 ⟨w.heap.size+1,0,none⟩ _ i hi;refine⟨g,cap,W1,hr,⟨?_,(hF _ (by omega)).trans ((q2.block _ (by omega)).trans h.bN),m1.setS _,?_,⟨cs++_,?_,h2.app hd⟩,?_⟩,m1.two.1,m1.fz 0,m1.lt⟩
 ·have b1:=h.be.trans (q2.mono (by omega));exact⟨b1.os,b1.tape,b1.output,by simp[World.setCell];exact b1.size,λi hi=>(hF i (by omega)).trans (b1.block i hi)⟩
 ·refine R9 h.row λg' hg'=>(hF g' ?_).trans (q3.block g' (q9 h.row hg').1 ?_)
  ·have:=(q9 h.row hg').2.1;omega
  ·exact λe=>cU h.row h1 (by decide) g' hg' e.symm
 ·rw[List.length_append];exact R9 q1 λg' hg'=>hF g' (by have:g=g':=Option.some.inj hg';omega)
 ·refine R9 h.rl λg' hg'=>(hF g' ?_).trans (q3.block g' (q9 h.rl hg').1 ?_)
  ·have:=(q9 h.rl hg').2.1;omega
  ·exact λe=>cU h.rl h1 (by decide) g' hg' e.symm
theorem Ds2.appL(h:Ds2 w vd vl vI F vm vk gs ms W)(l:Lk)(hn:ms.length<=5000) :
  ∃g cq W1,(Builtin.append_ #[23,23] 23 #[vk,.slice (some ⟨W.heap.size,0,none⟩) 1 1]).run prog (W.alloc (.cells #[.int .i64 l.a,.int .i64 l.p,.int .i64 l.b,.int .i64 l.q] 96))=.ok (.slice (some ⟨g,0,none⟩) (ms.length+1) cq) W1/\Ds2 w vd vl vI F vm (.slice (some ⟨g,0,none⟩) (ms.length+1) cq) gs (ms++[l]) (W1.setCell ⟨w.heap.size+1,1,none⟩ (.slice (some ⟨g,0,none⟩) (ms.length+1) cq))/\W1.cell? ⟨w.heap.size+1,1,none⟩=some vk/\W1.frozen? ⟨w.heap.size+1,1,none⟩=false/\w.heap.size+1<W1.heap.size:=by
 obtain⟨cs,h1,h2⟩:=h.rd;have hsz:=h.size;obtain⟨v',W1,hr,q1,q2,q3,_⟩:=ba mP mQ rfl (by omega) (by omega) 23 h.rl (us:=ai l) rfl (by simp[ai,Value.oneCell']) (by omega) hsz;obtain⟨g,cap,rfl,hg1,hg2,_⟩:=U7 q1 (by omega);have m1:Bk W1 (w.heap.size+1) #[vm,vk] 25:=(q2.block _ (by omega)).trans h.bO;have hF:∀i,i≠w.heap.size+1->(W1.setCell ⟨w.heap.size+1,1,none⟩ (.slice (some ⟨g,0,none⟩) (ms.length+1) cap)).heap[i]?=W1.heap[i]?:=λi hi=>Below.heap_setCell W1 ⟨w.heap.size+1,1,none⟩ _ i hi;refine⟨g,cap,W1,hr,⟨?_,(hF _ (by omega)).trans ((q2.block _ (by omega)).trans h.bN),m1.setS _,?_,⟨cs,?_,h2⟩,?_⟩,m1.two.2,m1.fz 1,m1.lt⟩
 ·have b1:=h.be.trans (q2.mono (by omega));exact⟨b1.os,b1.tape,b1.output,by simp[World.setCell];exact b1.size,λi hi=>(hF i (by omega)).trans (b1.block i hi)⟩
 ·refine R9 h.row λg' hg'=>(hF g' ?_).trans (q3.block g' (q9 h.row hg').1 ?_)
  ·have:=(q9 h.row hg').2.1;omega
  ·exact λe=>cU h.row h.rl (by decide) g' hg' e.symm
 ·refine R9 h1 λg' hg'=>(hF g' ?_).trans (q3.block g' (q9 h1 hg').1 ?_)
  ·have:=(q9 h1 hg').2.1;omega
  ·exact λe=>cU h1 h.rl (by decide) g' hg' e.symm
 ·rw[List.length_append,mM];exact R9 q1 λg' hg'=>hF g' (by have:g=g':=Option.some.inj hg';omega)
theorem Ds2.devs(h:Ds2 w vd vl vI F vm vk gs ms W):Devs W.heap.size W vm gs:=by
 obtain⟨cs,h1,h2⟩:=h.rd;exact SlAt.own h1 λk x hk=>((h2.2 k x hk).below h.be).mono h.be.size
theorem Ds2.links(h:Ds2 w vd vl vI F vm vk gs ms W):Links W.heap.size W vk ms:=SlAt.own h.rl λk x hk=>by
 rw[iz ms k x hk];rfl
end
end Go.Proofs.YtppbfikimalojaaGreat
