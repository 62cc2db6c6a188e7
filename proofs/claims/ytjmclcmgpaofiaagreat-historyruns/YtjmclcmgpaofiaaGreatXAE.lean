/-
  XAE.
-/
import Derived.Test.YtjmclcmgpaofiaaGreatXLy
import Derived.Test.YtjmclcmgpaofiaaGreatXAD
set_option maxHeartbeats 8000000
set_option maxRecDepth 100000
namespace Go.Proofs.YtjmclcmgpaofiaaGreat
open Tryz
open Go.RowKit Go.Maps
theorem qQ(m:Mp)(ds:List Dv)(ls:List Lk)(n:Nat)(M:Mnd)(i:Nat)(d:Dv)(p:Pk)(w:World)(hM:Hid (MemAt w m ds ls n M))(hx:Hid (ds[i]?=some d)) :
  Cl 144 #[.pointer (some ⟨m.B,m.z,none⟩),(i:Int),pkV p] w (aP m w (fQ d p)):=by
 have M2:=(hM.out.alloc (pkC p)).alloc lvC;have D2:=Below.alN (Below.alN (Below.refl w w) (pkC p)) lvC;have P2:=(ah w #[p.s,p.d,p.sp,p.dp] 37).alloc lvC;have L2:=ah (w.alloc (pkC p)) #[.int .i64 0,.int .i64 0,.int .i64 0,.int .i64 0,.int .i64 0,.nilFunc] 214;rw[World.size_alloc]at L2;obtain⟨q0,_,_,_,_⟩:=M2.cells;obtain⟨b,o,vb,vr,vt,eA,HD,k1,k2⟩:=M2.dev hx.out;rw[eA]at q0;obtain⟨c0,c1,c2,c3,c4,c5,c6,s1,s2,s3⟩:=HD;have FO:Hid (∀W,Below ((w.alloc (pkC p)).alloc lvC).heap.size ((w.alloc (pkC p)).alloc lvC) W->CB 178 #[vt,p.d] W (.tuple #[.int .i64 (outN (routesOf d) p.d),.bool (outB (routesOf d) p.d)])):=λW h=>mg _ W ((s3.below h).mono h.size);have LT:Hid (∀W,Below ((w.alloc (pkC p)).alloc lvC).heap.size ((w.alloc (pkC p)).alloc lvC) W->CB 179 #[vr,pkV p] W (.bool (letsB (rulesOf d) p.s p.d p.sp p.dp))):=λW h=>qv _ _ _ _ W ((s2.below h).mono h.size);obtain⟨Ab,cb,rfl,_,_,_,_⟩:=s1;obtain⟨Ar,cr,rfl,_,_,_,_⟩:=s2;obtain⟨At,ct,rfl,_,_,_,_⟩:=s3;have PS:Hid (∀(q:Int) (p:Pk) W,CB 180 #[q,pkV p] W (.tuple #[lvA q p (.func (.func 208) #[] #[]),.int .i64 0])):=λq p W=>gL q p W;have SY:Hid (∀W,CB 151 #[] W (.tuple #[lvA 0 zeroP .nilFunc,.int .i64 7])):=λW=>gK W;generalize hr:fQ d p=r;have HR:Hid (r=if outB (routesOf d) p.d&&letsB (rulesOf d) p.s p.d p.sp p.dp then aR (outN (routesOf d) p.d) p else aF 7):=hr.symm;clear hr hx hM eA;have E0:=Below.refl ((w.alloc (pkC p)).alloc lvC).heap.size ((w.alloc (pkC p)).alloc lvC);generalize outB (routesOf d) p.d=x0 at *;generalize outN (routesOf d) p.d=q at *;generalize letsB (rulesOf d) p.s p.d p.sp p.dp=x1 at *;generalize (rulesOf d).length=nr at *;generalize (routesOf d).length=nt at *;generalize d.backs.length=nb at *;generalize d.name=nm at *;generalize d.kind=kd at *;generalize d.addr=ad at *;generalize d.pool=pl at *;obtain⟨s,dd,sp,dp⟩:=p;simp only at *;have E1:=Below.alN E0 (dvC nm kd ad pl (.slice Ab nb cb) (.slice Ar nr cr) (.slice At nt ct));have D3:=Below.alN D2 (dvC nm kd ad pl (.slice Ab nb cb) (.slice Ar nr cr) (.slice At nt ct));have P3:=P2.alloc (dvC nm kd ad pl (.slice Ab nb cb) (.slice Ar nr cr) (.slice At nt ct));have L3:=L2.alloc (dvC nm kd ad pl (.slice Ab nb cb) (.slice Ar nr cr) (.slice At nt ct));have V3:=ah ((w.alloc (pkC ⟨s,dd,sp,dp⟩)).alloc lvC) #[.string nm,kd,ad,.int .u8 (pl:Int),.slice Ab nb cb,.slice Ar nr cr,.slice At nt ct] 70;simp only[World.size_alloc]at V3;clear E0 D2 P2 L2 M2;go_enter func144,ntmps144;go_wp2_with fail;refine(FO.out _ E1).mono ?_;rintro e w4⟨rfl,hb4⟩;have D4:=aa hb4 D3;have E4:=aa hb4 E1;have P4:=P3.keep hb4;have L4:=L3.keep hb4;have V4:=V3.keep hb4;clear hb4 D3 E1 P3 L3 V3 c0 c1 c2 c3 c4 c5 c6 q0;obtain⟨p0,p1,p2,p3,_⟩:=P4.four;obtain⟨v0,v1,v2,v3,v4,v5,v6⟩:=V4.seven;have z4:w.heap.size+1<w4.heap.size:=L4.lt;cases x0
 ·have HV:Hid (r=aF 7):=by show _=_;rw[HR.out];rfl
  go_wp2_with fail;refine(SY.out _).mono ?_;rintro e w9⟨rfl,hb9⟩;have D9:=aa hb9 D4;have L9:=L4.keep hb9;obtain⟨⟨l0,l1,l2,l3,l4,l5⟩,⟨f0,f1,f2,f3,f4,f5⟩⟩:=L9.six;go_wp2_with fail;refine bodyPost_ret (v:=.tuple #[lvA 0 zeroP .nilFunc,.int .i64 7]) (by simp[results,results144,go_sem,l0,l1,l2,l3,l4,l5]) rfl ⟨0,zeroP,.nilFunc,7,rfl,?_,?_⟩
  ·rw[HV.out];exact⟨rfl,Or.inl rfl,λh=>by cases h⟩
  ·go_grown
 go_wp2_with fail;refine(LT.out _ E4).mono ?_;rintro e w5⟨rfl,hb5⟩;have D5:=aa hb5 D4;have P5:=P4.keep hb5;have L5:=L4.keep hb5;clear hb5 D4 P4 L4 V4 p0 p1 p2 p3 v0 v1 v2 v3 v4 v5 v6;obtain⟨p0,p1,p2,p3,_⟩:=P5.four;have z5:w.heap.size+1<w5.heap.size:=L5.lt;cases x1
 ·have HV:Hid (r=aF 7):=by show _=_;rw[HR.out];rfl
  go_wp2_with fail;refine(SY.out _).mono ?_;rintro e w9⟨rfl,hb9⟩;have D9:=aa hb9 D5;have L9:=L5.keep hb9;obtain⟨⟨l0,l1,l2,l3,l4,l5⟩,⟨f0,f1,f2,f3,f4,f5⟩⟩:=L9.six;go_wp2_with fail;refine bodyPost_ret (v:=.tuple #[lvA 0 zeroP .nilFunc,.int .i64 7]) (by simp[results,results144,go_sem,l0,l1,l2,l3,l4,l5]) rfl ⟨0,zeroP,.nilFunc,7,rfl,?_,?_⟩
  ·rw[HV.out];exact⟨rfl,Or.inl rfl,λh=>by cases h⟩
  ·go_grown
 have HV:Hid (r=aR q ⟨s,dd,sp,dp⟩):=by show _=_;rw[HR.out];rfl
 go_wp2_with fail;refine(PS.out _ ⟨s,dd,sp,dp⟩ _).mono ?_;rintro e w9⟨rfl,hb9⟩;have D9:=aa hb9 D5;have L9:=L5.keep hb9;obtain⟨⟨l0,l1,l2,l3,l4,l5⟩,⟨f0,f1,f2,f3,f4,f5⟩⟩:=L9.six;go_wp2_with fail;refine bodyPost_ret (v:=.tuple #[lvA q ⟨s,dd,sp,dp⟩ (.func (.func 208) #[] #[]),.int .i64 0]) (by simp[results,results144,go_sem,l0,l1,l2,l3,l4,l5]) rfl ⟨_,_,_,0,rfl,?_,?_⟩
 ·rw[HV.out];exact⟨rfl,Or.inr ⟨_,_,rfl⟩,λ_=>⟨rfl,rfl,rfl⟩⟩
 ·go_grown
theorem qR(m:Mp)(ds:List Dv)(ls:List Lk)(n:Nat)(M:Mnd)(i:Nat)(d:Dv)(p:Pk)(w:World)(hM:Hid (MemAt w m ds ls n M))(hx:Hid (ds[i]?=some d))(hp:Hid p.ok)(hi:Hid (aj (i:Int))) :
  Cl 145 #[.pointer (some ⟨m.B,m.z,none⟩),(i:Int),pkV p] w (aP m w (eR d i p)):=by
 have M2:=((hM.out.alloc (.cells #[.pointer (some ⟨m.B,m.z,none⟩)] 100)).alloc (pkC p)).alloc lvC;have D2:=Below.alN (Below.alN (Below.alN (Below.refl w w) (.cells #[.pointer (some ⟨m.B,m.z,none⟩)] 100)) (pkC p)) lvC;have B2:=((ah w #[.pointer (some ⟨m.B,m.z,none⟩)] 100).alloc (pkC p)).alloc lvC;have P2:=(ah (w.alloc (.cells #[.pointer (some ⟨m.B,m.z,none⟩)] 100)) #[p.s,p.d,p.sp,p.dp] 37).alloc lvC;have L2:=ah ((w.alloc (.cells #[.pointer (some ⟨m.B,m.z,none⟩)] 100)).alloc (pkC p)) #[.int .i64 0,.int .i64 0,.int .i64 0,.int .i64 0,.int .i64 0,.nilFunc] 214;simp only[World.size_alloc]at P2 L2;obtain⟨q0,_,_,_,_⟩:=M2.cells;obtain⟨b,o,vb,vr,vt,eA,HD,k1,k2⟩:=M2.dev hx.out;rw[eA]at q0;obtain⟨c0,c1,c2,c3,c4,c5,c6,s1,s2,s3⟩:=HD;have LT:Hid (∀W,Below (((w.alloc (.cells #[.pointer (some ⟨m.B,m.z,none⟩)] 100)).alloc (pkC p)).alloc lvC).heap.size (((w.alloc (.cells #[.pointer (some ⟨m.B,m.z,none⟩)] 100)).alloc (pkC p)).alloc lvC) W->CB 179 #[vr,pkV p] W (.bool (letsB (rulesOf d) p.s p.d p.sp p.dp))):=λW h=>qv _ _ _ _ W ((s2.below h).mono h.size);obtain⟨Ab,cb,rfl,_,_,_,_⟩:=s1;obtain⟨Ar,cr,rfl,_,_,_,_⟩:=s2;obtain⟨At,ct,rfl,_,_,_,_⟩:=s3;have SY:Hid (∀W,CB 151 #[] W (.tuple #[lvA 0 zeroP .nilFunc,.int .i64 7])):=λW=>gK W;generalize hr:eR d i p=r;have HR:Hid (r=if letsB (rulesOf d) p.s p.d p.sp p.dp then⟨0,1,p,.flow i p⟩else aF 7):=hr.symm;clear hr hx hM eA;have E0:=(Below.refl (((w.alloc (.cells #[.pointer (some ⟨m.B,m.z,none⟩)] 100)).alloc (pkC p)).alloc lvC).heap.size (((w.alloc (.cells #[.pointer (some ⟨m.B,m.z,none⟩)] 100)).alloc (pkC p)).alloc lvC)).drew;generalize letsB (rulesOf d) p.s p.d p.sp p.dp=x1 at *;generalize (rulesOf d).length=nr at *;generalize (routesOf d).length=nt at *;generalize d.backs.length=nb at *;generalize d.name=nm at *;generalize d.kind=kd at *;generalize d.addr=ad at *;generalize d.pool=pl at *;obtain⟨s,dd,sp,dp⟩:=p;simp only at *;have B3:=B2.drew;have P3:=P2.drew;have L3:=L2.drew;have D3:=D2.drew;have Q0:(((w.alloc (.cells #[.pointer (some ⟨m.B,m.z,none⟩)] 100)).alloc (pkC ⟨s,dd,sp,dp⟩)).alloc lvC).drew.cell? ⟨m.B,m.z,none⟩=some (.slice (some ⟨b,o,none⟩) ds.length m.cap):=q0;have C5:(((w.alloc (.cells #[.pointer (some ⟨m.B,m.z,none⟩)] 100)).alloc (pkC ⟨s,dd,sp,dp⟩)).alloc lvC).drew.cell? ⟨b,o+i*7+5,none⟩=some (.slice Ar nr cr):=c5;clear D2 M2;obtain⟨b0,_⟩:=B2.one;obtain⟨p0,p1,p2,p3,_⟩:=P2.four;go_enter func145,ntmps145;go_wp2_with fail;go_region_held3 (λw'=>w'.cell? ⟨w,0,none⟩=some (.pointer (some ⟨m.B,m.z,none⟩)) /\ w'.cell? ⟨m.B,m.z,none⟩=some (.slice (some ⟨b,o,none⟩) ds.length m.cap) /\ w'.cell? ⟨b,o+i*7+5,none⟩=some (.slice Ar nr cr) /\ w'.cell? ⟨w.heap.size+1,0,none⟩=some (.int .i64 s) /\ w'.cell? ⟨w.heap.size+1,1,none⟩=some (.int .i64 dd) /\ w'.cell? ⟨w.heap.size+1,2,none⟩=some (.int .i64 sp) /\ w'.cell? ⟨w.heap.size+1,3,none⟩=some (.int .i64 dp)) (go_keep) ((go_at_call 179;refine(LT.out _ E0).mono ?_;rintro e w5⟨rfl,hb5⟩;have D5:=aa hb5 D3;have B5:=B3.keep hb5;have P5:=P3.keep hb5;have L5:=L3.keep hb5;have q5:=(CK.of_below hb5).cell Q0;have c9:=(CK.of_below hb5).cell C5;obtain⟨b5,_⟩:=B5.one;obtain⟨g0,g1,g2,g3,_⟩:=P5.four))
 clear B3 P3 L3 D3 B2 P2 L2 b0 p0 p1 p2 p3 Q0 C5 q0 c0 c1 c2 c3 c4 c5 c6 q5 c9 hb5 LT E0;have z5:w.heap.size+1+1<w5.heap.size:=L5.lt;have z6:w.heap.size+1<w5.heap.size:=P5.lt;have z7:w.heap.size<w5.heap.size:=B5.lt;cases x1
 ·have HV:Hid (r=aF 7):=by show _=_;rw[HR.out];rfl
  go_wp2_with fail;refine(SY.out _).mono ?_;rintro e w9⟨rfl,hb9⟩;have D9:=aa hb9 D5;have L9:=L5.keep hb9;obtain⟨⟨l0,l1,l2,l3,l4,l5⟩,⟨f0,f1,f2,f3,f4,f5⟩⟩:=L9.six;go_wp2_with fail;refine bodyPost_ret (v:=.tuple #[lvA 0 zeroP .nilFunc,.int .i64 7]) (by simp[results,results145,go_sem,l0,l1,l2,l3,l4,l5]) rfl ⟨0,zeroP,.nilFunc,7,rfl,?_,?_⟩
  ·rw[HV.out];exact⟨rfl,Or.inl rfl,λh=>by cases h⟩
  ·go_grown
 have HV:Hid (r=⟨0,1,⟨s,dd,sp,dp⟩,.flow i ⟨s,dd,sp,dp⟩⟩):=by show _=_;rw[HR.out];rfl
 go_upto_region 3 with fail;go_cut [8] (λv8 wx=>∃g,v8=.pointer (some ⟨g,0,none⟩) /\ Bk wx g #[(i:Int),s,dd,sp,dp] 175 /\ w.heap.size+1+1<g /\ Bk wx w.heap.size #[.pointer (some ⟨m.B,m.z,none⟩)] 100 /\ Bk wx (w.heap.size+1) #[s,dd,sp,dp] 37 /\ Bk wx (w.heap.size+1+1) #[.int .i64 0,.int .i64 0,.int .i64 0,.int .i64 0,.int .i64 0,.nilFunc] 214 /\ Below w w wx)
 case first =>
  go_wp2_with fail
  go_meet
  exact⟨_,rfl,ah w5 _ _,z5,B5.alloc _,P5.alloc _,L5.alloc _,Below.alN D5 _⟩
 case rest =>
  clear D5 B5 P5 L5 z5 z6 z7 b5 g0 g1 g2 g3;obtain⟨g,rfl,F6,zg,B6,P6,L6,D6⟩:=hcut;obtain⟨g0,g1,g2,g3,_⟩:=P6.four;obtain⟨⟨l0,l1,l2,l3,l4,l5⟩,⟨f0,f1,f2,f3,f4,f5⟩⟩:=L6.six;go_wp2_with fail;refine bodyPost_ret (v:=.tuple #[lvA 1 ⟨s,dd,sp,dp⟩ (.func (.func 181) #[] #[.pointer (some ⟨w,0,none⟩),.pointer (some ⟨g,0,none⟩)]),.int .i64 0]) (by simp[results,results145,go_sem,l0,l1,l2,l3,l4,l5]) rfl ⟨_,_,_,0,rfl,?_,?_⟩
  ·rw[HV.out];obtain⟨b0,_⟩:=B6.one;obtain⟨e0,e1,e2,e3,e4⟩:=F6.five;exact⟨rfl,Or.inr ⟨_,_,rfl⟩,λ_=>⟨rfl,rfl,hi.out,hp.out,_,_,rfl,by omega,by omega,by simp[go_sem,b0],by simp[go_sem,e0],by simp[go_sem,e1],by simp[go_sem,e2],by simp[go_sem,e3],by simp[go_sem,e4]⟩⟩
  ·go_grown
theorem ansS{w':World}{m:Mp}{ds:List Dv}{ls:List Lk}{n N:Nat}{M:Mnd}{i:Int}{s dd sp dp:Int}{x0:Bool}(hM:MemAt w' m ds ls n M)(hP:Bk w' N #[s,dd,sp,dp] 37)(hi:aj i)(hp:(⟨s,dd,sp,dp⟩:Pk).ok)(hx:(M.fl (i,⟨dd,s,dp,sp⟩)).isSome=x0) :
  w'.cell? ⟨m.B,m.z+2,none⟩=some (.map (some m.f)) /\ w'.cell? ⟨N,0,none⟩=some (.int .i64 s) /\ w'.cell? ⟨N,1,none⟩=some (.int .i64 dd) /\ w'.cell? ⟨N,2,none⟩=some (.int .i64 sp) /\ w'.cell? ⟨N,3,none⟩=some (.int .i64 dp) /\ (Instr.lookup 103 (.map (some m.f)) (.agg #[i,dd,s,dp,sp]) true).run prog w'=.ok (.tuple #[.agg #[],.bool x0]) w':=by
 obtain⟨p0,p1,p2,p3,_⟩:=hP.four;have:=hM.lookF (p:=⟨dd,s,dp,sp⟩) hi ⟨hp.d,hp.s,hp.dp,hp.sp⟩;rw[hx]at this;exact⟨hM.cells.2.2.1,p0,p1,p2,p3,this⟩
theorem qS(m:Mp)(ds:List Dv)(ls:List Lk)(n:Nat)(M:Mnd)(i:Nat)(p:Pk)(w:World)(hM:Hid (MemAt w m ds ls n M))(hp:Hid p.ok)(hi:Hid (aj (i:Int))) :
  Cl 146 #[.pointer (some ⟨m.B,m.z,none⟩),(i:Int),pkV p] w (aP m w (fR M i p)):=by
 have M2:=(hM.out.alloc (pkC p)).alloc lvC;have D2:=Below.alN (Below.alN (Below.refl w w) (pkC p)) lvC;have P2:=(ah w #[p.s,p.d,p.sp,p.dp] 37).alloc lvC;have L2:=ah (w.alloc (pkC p)) #[.int .i64 0,.int .i64 0,.int .i64 0,.int .i64 0,.int .i64 0,.nilFunc] 214;rw[World.size_alloc]at L2;have SY:Hid (∀W,CB 151 #[] W (.tuple #[lvA 0 zeroP .nilFunc,.int .i64 7])):=λW=>gK W;have PS:Hid (∀(q:Int) (p:Pk) W,CB 180 #[q,pkV p] W (.tuple #[lvA q p (.func (.func 208) #[] #[]),.int .i64 0])):=λq p W=>gL q p W;obtain⟨s,dd,sp,dp⟩:=p;simp only at *;have FL:Hid (∀w,CB 173 #[.agg #[s,dd,sp,dp]] w (.agg #[dd,s,dp,sp])):=λw=>pflip_any ⟨s,dd,sp,dp⟩ w;generalize hr:fR M i ⟨s,dd,sp,dp⟩=r;generalize hx:(M.fl ((i:Int),(⟨dd,s,dp,sp⟩:Pk))).isSome=x0;have HR:Hid (r=if x0 then aR 0 ⟨s,dd,sp,dp⟩else aF 7):=by
  show _=_;rw[<- hr,<- hx];rfl
 have HX:Hid ((M.fl ((i:Int),(⟨dd,s,dp,sp⟩:Pk))).isSome=x0):=hx;clear hr hx hM;have D3:=D2.drew;have M3:=M2.drew;have P3:=P2.drew;have L3:=L2.drew;have D3a:=(Below.alN D2 (.cells #[] 111)).drew;have M3a:=(M2.alloc (.cells #[] 111)).drew;have P3a:=(P2.alloc (.cells #[] 111)).drew;have L3a:=(L2.alloc (.cells #[] 111)).drew;have S2:=ansS M2 P2 hi.out hp.out HX.out;clear D2 M2 P2 L2;obtain⟨q0,p0,p1,p2,p3,lk⟩:=S2;go_enter func146,ntmps146;go_wp2_with fail;go_cut [9] (λv9 wx=>v9=.bool x0 /\ Below w w wx /\ Bk wx w.heap.size #[s,dd,sp,dp] 37 /\ Bk wx (w.heap.size+1) #[.int .i64 0,.int .i64 0,.int .i64 0,.int .i64 0,.int .i64 0,.nilFunc] 214)
 case first =>
  go_region_held3 (λw'=>w'.cell? ⟨m.B,m.z+2,none⟩=some (.map (some m.f)) /\ w'.cell? ⟨w,0,none⟩=some (.int .i64 s) /\ w'.cell? ⟨w,1,none⟩=some (.int .i64 dd) /\ w'.cell? ⟨w,2,none⟩=some (.int .i64 sp) /\ w'.cell? ⟨w,3,none⟩=some (.int .i64 dp) /\ (Instr.lookup 103 (.map (some m.f)) (.agg #[(i:Int),dd,s,dp,sp]) true).run prog w'=.ok (.tuple #[.agg #[],.bool x0]) w') (exact ansS (by first|assumption|exact MemAt.alloc ‹_› _) (by first|assumption|exact Bk.alloc ‹_› _) hi.out hp.out HX.out) (first|(go_at_call 173;refine(FL.out _).mono ?_;rintro e w5⟨rfl,hb5⟩;have D5:=aa hb5 D3;have M5:=M3.below hb5;have P5:=P3.keep hb5;have L5:=L3.keep hb5)|(go_at_call 173;refine(FL.out _).mono ?_;rintro e w5⟨rfl,hb5⟩;have D5:=aa hb5 D3a;have M5:=M3a.below hb5;have P5:=P3a.keep hb5;have L5:=L3a.keep hb5))
  all_goals
   go_wp2_with fail
   go_meet
   exact⟨rfl,by first|exact D5|exact Below.alN D5 _,by first|exact P5|exact P5.alloc _,by first|exact L5|exact L5.alloc _⟩
 case rest =>
  clear D3 M3 P3 L3 D3a M3a P3a L3a q0 p0 p1 p2 p3 lk FL;obtain⟨rfl,D5,P5,L5⟩:=hcut;obtain⟨p0,p1,p2,p3,_⟩:=P5.four;have z5:w.heap.size+1<wc.heap.size:=L5.lt;cases x0
  ·have HV:Hid (r=aF 7):=by show _=_;rw[HR.out];rfl
   go_wp2_with fail;refine(SY.out _).mono ?_;rintro e w9⟨rfl,hb9⟩;have D9:=aa hb9 D5;have L9:=L5.keep hb9;obtain⟨⟨l0,l1,l2,l3,l4,l5⟩,⟨f0,f1,f2,f3,f4,f5⟩⟩:=L9.six;go_wp2_with fail;refine bodyPost_ret (v:=.tuple #[lvA 0 zeroP .nilFunc,.int .i64 7]) (by simp[results,results146,go_sem,l0,l1,l2,l3,l4,l5]) rfl ⟨0,zeroP,.nilFunc,7,rfl,?_,?_⟩
   ·rw[HV.out];exact⟨rfl,Or.inl rfl,λh=>by cases h⟩
   ·go_grown
  have HV:Hid (r=aR 0 ⟨s,dd,sp,dp⟩):=by show _=_;rw[HR.out];rfl
  go_wp2_with fail;refine(PS.out _ ⟨s,dd,sp,dp⟩ _).mono ?_;rintro e w9⟨rfl,hb9⟩;have D9:=aa hb9 D5;have L9:=L5.keep hb9;obtain⟨⟨l0,l1,l2,l3,l4,l5⟩,⟨f0,f1,f2,f3,f4,f5⟩⟩:=L9.six;go_wp2_with fail;refine bodyPost_ret (v:=.tuple #[lvA 0 ⟨s,dd,sp,dp⟩ (.func (.func 208) #[] #[]),.int .i64 0]) (by simp[results,results146,go_sem,l0,l1,l2,l3,l4,l5]) rfl ⟨_,_,_,0,rfl,?_,?_⟩
  ·rw[HV.out];exact⟨rfl,Or.inr ⟨_,_,rfl⟩,λ_=>⟨rfl,rfl,rfl⟩⟩
  ·go_grown
theorem qT(m:Mp)(ds:List Dv)(ls:List Lk)(n:Nat)(M:Mnd)(i:Nat)(d:Dv)(p:Pk)(w:World)(hM:Hid (MemAt w m ds ls n M))(hx:Hid (ds[i]?=some d))(hp:Hid p.ok)(hi:Hid (aj (i:Int)))(ha:Hid (aj d.addr)) :
  Cl 150 #[.pointer (some ⟨m.B,m.z,none⟩),(i:Int),pkV p] w (aP m w (eT d M i p)):=by
 have M2:=(hM.out.alloc (pkC p)).alloc lvC;have D2:=Below.alN (Below.alN (Below.refl w w) (pkC p)) lvC;have P2:=(ah w #[p.s,p.d,p.sp,p.dp] 37).alloc lvC;have L2:=ah (w.alloc (pkC p)) #[.int .i64 0,.int .i64 0,.int .i64 0,.int .i64 0,.int .i64 0,.nilFunc] 214;rw[World.size_alloc]at L2;obtain⟨q0,_,_,_,_⟩:=M2.cells;obtain⟨b,o,vb,vr,vt,eA,HD,k1,k2⟩:=M2.dev hx.out;rw[eA]at q0;obtain⟨c0,c1,c2,c3,c4,c5,c6,s1,s2,s3⟩:=HD;obtain⟨Ab,cb,rfl,_,_,_,_⟩:=s1;obtain⟨Ar,cr,rfl,_,_,_,_⟩:=s2;obtain⟨At,ct,rfl,_,_,_,_⟩:=s3;have PS:Hid (∀(q:Int) (p:Pk) W,CB 180 #[q,pkV p] W (.tuple #[lvA q p (.func (.func 208) #[] #[]),.int .i64 0])):=λq p W=>gL q p W;obtain⟨s,dd,sp,dp⟩:=p;generalize hr:eT d M i ⟨s,dd,sp,dp⟩=r;have HR:Hid (r=aR 0 (if M.bk ((i:Int),⟨dd,d.addr,dp,sp⟩)=some s then⟨d.addr,dd,sp,dp⟩else⟨s,dd,sp,dp⟩)):=hr.symm;have HL:Hid (∀W,MemAt W m ds ls n M->(Instr.lookup 105 (.map (some m.k)) (.agg #[(i:Int),dd,d.addr,dp,sp]) true).run prog W=.ok (.tuple #[.int .i64 ((M.bk ((i:Int),⟨dd,d.addr,dp,sp⟩)).getD 0),.bool (M.bk ((i:Int),⟨dd,d.addr,dp,sp⟩)).isSome]) W):=λW h=>h.lookB (p:=⟨dd,d.addr,dp,sp⟩) hi.out ⟨hp.out.d,ha.out,hp.out.dp,hp.out.sp⟩;clear hr hx hM eA ha;simp only at *;generalize M.bk ((i:Int),⟨dd,d.addr,dp,sp⟩)=y at *;generalize (rulesOf d).length=nr at *;generalize (routesOf d).length=nt at *;generalize d.backs.length=nb at *;generalize d.name=nm at *;generalize d.kind=kd at *;generalize d.addr=ad at *;generalize d.pool=pl at *;have lk:=HL.out _ (M2.alloc (.cells #[dd,ad,dp,sp] 37)).drew;obtain⟨_,_,_,_,q4⟩:=(M2.alloc (.cells #[dd,ad,dp,sp] 37)).cells;have D3:=(Below.alN D2 (.cells #[dd,ad,dp,sp] 37)).drew;have L3:=(L2.alloc (.cells #[dd,ad,dp,sp] 37)).drew;clear HL M2 P2;cases y with
 | none =>
   have HV:Hid (r=aR 0 ⟨s,dd,sp,dp⟩):=by show _=_;rw[HR.out];rfl
   simp only[Option.getD_none,Option.isSome_none]at lk;go_enter func150,ntmps150;go_wp2_with fail;go_region;go_wp2_with fail;refine(PS.out _ ⟨s,dd,sp,dp⟩ _).mono ?_;rintro e w9⟨rfl,hb9⟩;have D9:=aa hb9 D3;have L9:=L3.keep hb9;obtain⟨⟨l0,l1,l2,l3,l4,l5⟩,⟨f0,f1,f2,f3,f4,f5⟩⟩:=L9.six;go_wp2_with fail;refine bodyPost_ret (v:=.tuple #[lvA 0 ⟨s,dd,sp,dp⟩ (.func (.func 208) #[] #[]),.int .i64 0]) (by simp[results,results150,go_sem,l0,l1,l2,l3,l4,l5]) rfl ⟨_,_,_,0,rfl,?_,?_⟩
   ·rw[HV.out];exact⟨rfl,Or.inr ⟨_,_,rfl⟩,λ_=>⟨rfl,rfl,rfl⟩⟩
   ·go_grown
 | some x =>
   simp only[Option.getD_some,Option.isSome_some]at lk;cases hxs:(x == s)
   ·have HV:Hid (r=aR 0 ⟨s,dd,sp,dp⟩):=by
     show _=_;rw[HR.out,if_neg (λe=>by cases e;simp at hxs)]
    go_enter func150,ntmps150;go_wp2_with fail;go_region;go_wp2_with fail;refine(PS.out _ ⟨s,dd,sp,dp⟩ _).mono ?_;rintro e w9⟨rfl,hb9⟩;have D9:=aa hb9 D3;have L9:=L3.keep hb9;obtain⟨⟨l0,l1,l2,l3,l4,l5⟩,⟨f0,f1,f2,f3,f4,f5⟩⟩:=L9.six;go_wp2_with fail;refine bodyPost_ret (v:=.tuple #[lvA 0 ⟨s,dd,sp,dp⟩ (.func (.func 208) #[] #[]),.int .i64 0]) (by simp[results,results150,go_sem,l0,l1,l2,l3,l4,l5]) rfl ⟨_,_,_,0,rfl,?_,?_⟩
    ·rw[HV.out];exact⟨rfl,Or.inr ⟨_,_,rfl⟩,λ_=>⟨rfl,rfl,rfl⟩⟩
    ·go_grown
   ·have HV:Hid (r=aR 0 ⟨ad,dd,sp,dp⟩):=by
     show _=_;rw[HR.out,if_pos (by rw[eq_of_beq hxs])]
    have D4:=(Below.alN (Below.alN (Below.alN (Below.refl w w) (pkC ⟨ad,dd,sp,dp⟩)) lvC) (.cells #[dd,ad,dp,sp] 37)).drew;have L4:=(ah (w.alloc (pkC ⟨ad,dd,sp,dp⟩)) #[.int .i64 0,.int .i64 0,.int .i64 0,.int .i64 0,.int .i64 0,.nilFunc] 214).alloc (.cells #[dd,ad,dp,sp] 37);rw[World.size_alloc]at L4;have L5:=L4.drew;go_enter func150,ntmps150;go_wp2_with fail;go_region;go_wp2_with fail;refine(PS.out _ ⟨ad,dd,sp,dp⟩ _).mono ?_;rintro e w9⟨rfl,hb9⟩;have D9:=aa hb9 D4;have L9:=L5.keep hb9;obtain⟨⟨l0,l1,l2,l3,l4,l5⟩,⟨f0,f1,f2,f3,f4,f5⟩⟩:=L9.six;go_wp2_with fail;refine bodyPost_ret (v:=.tuple #[lvA 0 ⟨ad,dd,sp,dp⟩ (.func (.func 208) #[] #[]),.int .i64 0]) (by simp[results,results150,go_sem,l0,l1,l2,l3,l4,l5]) rfl ⟨_,_,_,0,rfl,?_,?_⟩
    ·rw[HV.out];exact⟨rfl,Or.inr ⟨_,_,rfl⟩,λ_=>⟨rfl,rfl,rfl⟩⟩
    ·go_grown
theorem qU(m:Mp)(ds:List Dv)(ls:List Lk)(n:Nat)(M:Mnd)(i:Nat)(d:Dv)(p:Pk)(w:World)(hM:Hid (MemAt w m ds ls n M))(hx:Hid (ds[i]?=some d))(hp:Hid p.ok)(hi:Hid (aj (i:Int))) :
  Cl 148 #[.pointer (some ⟨m.B,m.z,none⟩),(i:Int),pkV p] w (aP m w (dk d M i p)):=by
 have M2:=(hM.out.alloc (pkC p)).alloc lvC;have D2:=Below.alN (Below.alN (Below.refl w w) (pkC p)) lvC;have P2:=(ah w #[p.s,p.d,p.sp,p.dp] 37).alloc lvC;have L2:=ah (w.alloc (pkC p)) #[.int .i64 0,.int .i64 0,.int .i64 0,.int .i64 0,.int .i64 0,.nilFunc] 214;rw[World.size_alloc]at L2;have PS:Hid (∀(q:Int) (p:Pk) W,CB 180 #[q,pkV p] W (.tuple #[lvA q p (.func (.func 208) #[] #[]),.int .i64 0])):=λq p W=>gL q p W;have SY:Hid (∀W,CB 151 #[] W (.tuple #[lvA 0 zeroP .nilFunc,.int .i64 7])):=λW=>gK W;obtain⟨s,dd,sp,dp⟩:=p;generalize hr:dk d M i ⟨s,dd,sp,dp⟩=r;have HR:Hid (r=match M.ow ((i:Int),dp)with|some z=>if dd == d.addr then aR 0 ⟨s,z.1,sp,z.2⟩else aF 7|none=>aF 7):=hr.symm;have lk:=(M2.alloc (.cells #[.int .i64 0,.int .i64 0] 180)).drew.lookO (i:=(i:Int)) (k:=dp) hi.out hp.out.dp;have lk2:=M2.drew.lookO (i:=(i:Int)) (k:=dp) hi.out hp.out.dp;simp only at *;obtain⟨_,_,_,qo,_⟩:=(M2.alloc (.cells #[.int .i64 0,.int .i64 0] 180)).cells;obtain⟨_,_,_,qo2,_⟩:=M2.cells;generalize M.ow ((i:Int),dp)=y at *;obtain⟨ea,eb,x0,hea,heb,hx0⟩:∃ea eb x0,(y.getD (0,0)).1=ea /\ (y.getD (0,0)).2=eb /\ y.isSome=x0:=⟨_,_,_,rfl,rfl,rfl⟩;have HR2:Hid (r=if x0 then(if dd == d.addr then aR 0 ⟨s,ea,sp,eb⟩else aF 7)else aF 7):=by
  show _=_;rw[HR.out,<- hea,<- heb,<- hx0];cases y <;> rfl
 rw[hea,heb,hx0]at lk lk2;clear hr hM hea heb hx0 HR;go_enter func148,ntmps148;go_wp2_with fail;go_cut [8,9] (λv8 v9 wx=>∃g,v8=.pointer (some ⟨g,0,none⟩) /\ v9=.bool x0 /\ Bk wx g #[.int .i64 ea,.int .i64 eb] 180 /\ w.heap.size+1<g /\ Bk wx w.heap.size #[s,dd,sp,dp] 37 /\ Bk wx (w.heap.size+1) #[.int .i64 0,.int .i64 0,.int .i64 0,.int .i64 0,.int .i64 0,.nilFunc] 214 /\ MemAt wx m ds ls n M /\ Below w w wx)
 case first =>
  go_region;all_goals
   go_wp2_with fail
   go_meet
   exact⟨_,rfl,rfl,(ax _ _ _ _ (by simp)).drew,by simp,(P2.alloc _).drew,(L2.alloc _).drew,(M2.alloc _).drew,(Below.alN D2 _).drew⟩
 case rest =>
  clear lk lk2 qo qo2 M2 P2 L2 D2;obtain⟨g,rfl,rfl,E4,zg,P4,L4,M4,D4⟩:=hcut;obtain⟨p0,p1,p2,p3,pf0,pf1,pf2,pf3⟩:=P4.four;obtain⟨e0,e1⟩:=E4.two;have z4:w.heap.size<wc.heap.size:=P4.lt;cases x0
  ·have HV:Hid (r=aF 7):=HR2.out;clear HR2 hx;go_wp2_with fail
   go_quiet (fail)
   go_wp2_with fail;refine(SY.out _).mono ?_;rintro e w9⟨rfl,hb9⟩;have D9:=aa (W0:=w) hb9 (by first|(go_grown;done)|exact dI ‹_› _|(go_grown <;> exact dI ‹_› _));have L9:=L4.keep hb9;obtain⟨⟨l0,l1,l2,l3,l4,l5⟩,⟨f0,f1,f2,f3,f4,f5⟩⟩:=L9.six;go_wp2_with fail;refine bodyPost_ret (v:=.tuple #[lvA 0 zeroP .nilFunc,.int .i64 7]) (by simp[results,results148,go_sem,l0,l1,l2,l3,l4,l5]) rfl ⟨0,zeroP,.nilFunc,7,rfl,?_,?_⟩
   ·rw[HV.out];exact⟨rfl,Or.inl rfl,λh=>by cases h⟩
   ·go_grown
  obtain⟨q0,_,_,_,_⟩:=M4.cells;obtain⟨b,o,vb,vr,vt,eA,HD,k1,k2⟩:=M4.dev hx.out;rw[eA]at q0;obtain⟨c0,c1,c2,c3,c4,c5,c6,_,_,_⟩:=HD;clear hx eA M4 c0 c1 c3 c4 c5 c6;generalize d.addr=ad at *;cases ha:(dd == ad)
  ·have HV:Hid (r=aF 7):=by show _=_;rw[HR2.out,ha];rfl
   clear HR2;go_wp2_with fail
   go_quiet (fail)
   go_wp2_with fail;refine(SY.out _).mono ?_;rintro e w9⟨rfl,hb9⟩;have D9:=aa (W0:=w) hb9 (by first|(go_grown;done)|exact dI ‹_› _|(go_grown <;> exact dI ‹_› _));have L9:=L4.keep hb9;obtain⟨⟨l0,l1,l2,l3,l4,l5⟩,⟨f0,f1,f2,f3,f4,f5⟩⟩:=L9.six;go_wp2_with fail;refine bodyPost_ret (v:=.tuple #[lvA 0 zeroP .nilFunc,.int .i64 7]) (by simp[results,results148,go_sem,l0,l1,l2,l3,l4,l5]) rfl ⟨0,zeroP,.nilFunc,7,rfl,?_,?_⟩
   ·rw[HV.out];exact⟨rfl,Or.inl rfl,λh=>by cases h⟩
   ·go_grown
  ·have HV:Hid (r=aR 0 ⟨s,ea,sp,eb⟩):=by show _=_;rw[HR2.out,ha];rfl
   clear HR2;go_wp2_with fail
   go_quiet (fail)
   go_wp2_with fail;go_region;go_wp2_with fail;refine(PS.out _ ⟨s,ea,sp,eb⟩ _).mono ?_;rintro e w9⟨rfl,hb9⟩;have D9:=aa (W0:=w) hb9 (by first|(go_grown;done)|exact dI ‹_› _|(go_grown <;> exact dI ‹_› _));have L9:=((L4.setO (by omega) _).setO (by omega) _).keep hb9;obtain⟨⟨l0,l1,l2,l3,l4,l5⟩,⟨f0,f1,f2,f3,f4,f5⟩⟩:=L9.six;go_wp2_with fail;refine bodyPost_ret (v:=.tuple #[lvA 0 ⟨s,ea,sp,eb⟩ (.func (.func 208) #[] #[]),.int .i64 0]) (by simp[results,results148,go_sem,l0,l1,l2,l3,l4,l5]) rfl ⟨_,_,_,0,rfl,?_,?_⟩
   ·rw[HV.out];exact⟨rfl,Or.inr ⟨_,_,rfl⟩,λ_=>⟨rfl,rfl,rfl⟩⟩
   ·go_grown
theorem lX(M:Mnd)(i:Int)(s:Int × Int){k:Nat}(h:k<8):aL M i s k=if M.ow (i,(k:Int))=some s then some k else aL M i s (k+1):=by rw[aL,dif_pos h]
theorem jZ(M:Mnd)(i:Int)(s:Int × Int){k:Nat}(h:8<=k):aL M i s k=none:=by rw[aL,dif_neg (by omega)]
theorem qV(a b c d:Int)(w:World):(binOp .eql 180 (.agg #[a,b]) (.agg #[c,d])).run prog w=.ok (.bool ((a == c)&&(b == d))) w:=by
 cases h1:(a == c) <;> cases h2:(b == d)
 all_goals simp[go_sem,underlying180,underlying3,h1,h2]
theorem lY{k:Nat}(h:k<8):aj (k:Int):=cN (by omega) (by omega)
theorem qW(m:Mp)(ds:List Dv)(ls:List Lk)(n:Nat)(M:Mnd)(i:Int)(sa sb:Int)(w:World)(hM:Hid (MemAt w m ds ls n M))(hi:Hid (aj i)) :
  CB 182 #[.pointer (some ⟨m.B,m.z,none⟩),i,.agg #[sa,sb]] w (.tuple #[.int .i64 (((aL M i (sa,sb) 0).getD 0:Nat):Int),.bool (aL M i (sa,sb) 0).isSome]):=by
 have M0:=hM.out.alloc (.cells #[sa,sb] 180);have D0:=Below.alN (Below.refl w w) (.cells #[sa,sb] 180);have S0:=ah w #[sa,sb] 180;clear hM;generalize hres:aL M i (sa,sb) 0=res;have HR:Hid (aL M i (sa,sb) 0=res):=hres;clear hres;go_enter func182,ntmps182;go_wp2_with fail;go_loopw[11] (λc wr=>∃k:Nat,c=.int .i64 (k:Int) /\ k<=8 /\ Below w w wr /\ MemAt wr m ds ls n M /\ Bk wr w.heap.size #[sa,sb] 180 /\ Hid (res=aL M i (sa,sb) k)) (λc _=>8-(intOf c).toNat)
 case atStart=>exact⟨0,rfl,by omega,D0,M0,S0,HR.out.symm⟩
 case round =>
  clear D0 M0 S0 HR;obtain⟨k,rfl,hk,D1,M1,S1,hl⟩:=hrel;by_cases hlt:k<8
  ·have HF:Hid (aL M i (sa,sb) k=if M.ow (i,(k:Int))=some (sa,sb)then some k else aL M i (sa,sb) (k+1)):=lX M i (sa,sb) hlt;have lk:=M1.lookO hi.out (lY hlt);obtain⟨_,_,_,q0,_⟩:=M1.cells;obtain⟨s0,s1⟩:=S1.two;have k8:decide ((k:Int)<8)=true:=by simp;omega
   have zs:=S1.lt;cases y:M.ow (i,(k:Int))with
   | none =>
     have HV:Hid (res=aL M i (sa,sb) (k+1)):=by
      show _=_;rw[hl.out,HF.out,y,if_neg (by simp)]
     rw[y]at lk;simp only[Option.getD_none,Option.isSome_none]at lk;have D2:=Below.alN D1 (.cells #[.int .i64 0,.int .i64 0] 180);have M2:=M1.alloc (.cells #[.int .i64 0,.int .i64 0] 180);have S2:=S1.alloc (.cells #[.int .i64 0,.int .i64 0] 180);clear y HF hl D1 M1 S1;go_wp2_with fail;go_roundw
     case rel=>exact⟨k+1,by go_num,by omega,D2,M2,S2,HV⟩
     case measure=>simp[intOf];omega
   | some z =>
     obtain⟨a,b⟩:=z;rw[y]at lk;simp only[Option.getD_some,Option.isSome_some]at lk;have D2:=Below.alN D1 (.cells #[a,b] 180);have M2:=M1.alloc (.cells #[a,b] 180);have S2:=S1.alloc (.cells #[a,b] 180);have EQ:=λw=>qV a b sa sb w;cases he:((a == sa)&&(b == sb))
     ·have HV:Hid (res=aL M i (sa,sb) (k+1)):=by
       show _=_;rw[hl.out,HF.out,y,if_neg (λe=>by cases e;simp at he)]
      simp only[he]at EQ;clear y HF hl D1 M1 S1 he;go_wp2_with fail;go_roundw
      case rel=>exact⟨k+1,by go_num,by omega,D2,M2,S2,HV⟩
      case measure=>simp[intOf];omega
     ·have HV:Hid (res=some k):=by
       show _=_;simp only[Bool.and_eq_true,beq_iff_eq]at he;rw[hl.out,HF.out,y,if_pos (by rw[he.1,he.2])]
      simp only[he]at EQ;clear y HF hl D1 M1 S1 he;go_wp2_with fail;go_ret2;exact⟨by rw[HV.out];rfl,D2⟩
  ·have HV:Hid (res=none):=by
    show _=_;rw[hl.out,jZ _ _ _ (by omega)]
   have k8:decide ((k:Int)<8)=false:=by simp;omega
   go_wp2_with fail;go_ret2;exact⟨by rw[HV.out];rfl,D1⟩
theorem qX(a:Nat)(ha:a<256):Go.bits .and .u8 (a:Int) 1=((a % 2:Nat):Int):=by
 have h:∀x:Fin 256,Go.bits .and .u8 ((x.val:Nat):Int) 1=((x.val % 2:Nat):Int):=by decide +kernel
 exact h ⟨a,ha⟩
theorem dX(pl:Nat)(hp:pl<256)(k:Nat):(Go.bits .and .u8 (((pl / 2 ^ k:Nat):Int)) 1 == 1)=pl.testBit k:=by
 have h1:pl / 2 ^ k<256:=Nat.lt_of_le_of_lt (Nat.div_le_self _ _) hp;rw[qX _ h1,Nat.testBit_eq_decide_div_mod_eq,Bool.eq_iff_iff];simp only[beq_iff_eq,decide_eq_true_eq];generalize pl / 2 ^ k=q;omega
theorem qY(nm:ByteArray)(kd ad:Int)(pl:Nat)(vb vr vt:Value)(w:World)(hp:pl<256):CB 183 #[.agg #[.string nm,kd,ad,.int .u8 (pl:Int),vb,vr,vt],.int .i64 0] w (.bool (pl.testBit 0)):=by
 have D0:=Below.alN (Below.refl w w) (dvC nm kd ad pl vb vr vt);have hb:=dX pl hp 0;go_enter func183,ntmps183;go_wp2_with fail;go_ret;exact⟨by rw[<- hb];first|rfl|simp,D0⟩
theorem qZ(nm:ByteArray)(kd ad:Int)(pl:Nat)(vb vr vt:Value)(w:World)(hp:pl<256):CB 183 #[.agg #[.string nm,kd,ad,.int .u8 (pl:Int),vb,vr,vt],.int .i64 1] w (.bool (pl.testBit 1)):=by
 have D0:=Below.alN (Below.refl w w) (dvC nm kd ad pl vb vr vt);have hb:=dX pl hp 1;go_enter func183,ntmps183;go_wp2_with fail;go_ret;exact⟨by rw[<- hb];first|rfl|simp,D0⟩
theorem re(nm:ByteArray)(kd ad:Int)(pl:Nat)(vb vr vt:Value)(w:World)(hp:pl<256):CB 183 #[.agg #[.string nm,kd,ad,.int .u8 (pl:Int),vb,vr,vt],.int .i64 2] w (.bool (pl.testBit 2)):=by
 have D0:=Below.alN (Below.refl w w) (dvC nm kd ad pl vb vr vt);have hb:=dX pl hp 2;go_enter func183,ntmps183;go_wp2_with fail;go_ret;exact⟨by rw[<- hb];first|rfl|simp,D0⟩
theorem rg(nm:ByteArray)(kd ad:Int)(pl:Nat)(vb vr vt:Value)(w:World)(hp:pl<256):CB 183 #[.agg #[.string nm,kd,ad,.int .u8 (pl:Int),vb,vr,vt],.int .i64 3] w (.bool (pl.testBit 3)):=by
 have D0:=Below.alN (Below.refl w w) (dvC nm kd ad pl vb vr vt);have hb:=dX pl hp 3;go_enter func183,ntmps183;go_wp2_with fail;go_ret;exact⟨by rw[<- hb];first|rfl|simp,D0⟩
theorem rj(nm:ByteArray)(kd ad:Int)(pl:Nat)(vb vr vt:Value)(w:World)(hp:pl<256):CB 183 #[.agg #[.string nm,kd,ad,.int .u8 (pl:Int),vb,vr,vt],.int .i64 4] w (.bool (pl.testBit 4)):=by
 have D0:=Below.alN (Below.refl w w) (dvC nm kd ad pl vb vr vt);have hb:=dX pl hp 4;go_enter func183,ntmps183;go_wp2_with fail;go_ret;exact⟨by rw[<- hb];first|rfl|simp,D0⟩
theorem rk(nm:ByteArray)(kd ad:Int)(pl:Nat)(vb vr vt:Value)(w:World)(hp:pl<256):CB 183 #[.agg #[.string nm,kd,ad,.int .u8 (pl:Int),vb,vr,vt],.int .i64 5] w (.bool (pl.testBit 5)):=by
 have D0:=Below.alN (Below.refl w w) (dvC nm kd ad pl vb vr vt);have hb:=dX pl hp 5;go_enter func183,ntmps183;go_wp2_with fail;go_ret;exact⟨by rw[<- hb];first|rfl|simp,D0⟩
theorem rm(nm:ByteArray)(kd ad:Int)(pl:Nat)(vb vr vt:Value)(w:World)(hp:pl<256):CB 183 #[.agg #[.string nm,kd,ad,.int .u8 (pl:Int),vb,vr,vt],.int .i64 6] w (.bool (pl.testBit 6)):=by
 have D0:=Below.alN (Below.refl w w) (dvC nm kd ad pl vb vr vt);have hb:=dX pl hp 6;go_enter func183,ntmps183;go_wp2_with fail;go_ret;exact⟨by rw[<- hb];first|rfl|simp,D0⟩
theorem ro(nm:ByteArray)(kd ad:Int)(pl:Nat)(vb vr vt:Value)(w:World)(hp:pl<256):CB 183 #[.agg #[.string nm,kd,ad,.int .u8 (pl:Int),vb,vr,vt],.int .i64 7] w (.bool (pl.testBit 7)):=by
 have D0:=Below.alN (Below.refl w w) (dvC nm kd ad pl vb vr vt);have hb:=dX pl hp 7;go_enter func183,ntmps183;go_wp2_with fail;go_ret;exact⟨by rw[<- hb];first|rfl|simp,D0⟩
theorem rq(nm:ByteArray)(kd ad:Int)(pl:Nat)(vb vr vt:Value)(c:Int)(w:World)(hp:pl<256):CB 183 #[.agg #[.string nm,kd,ad,.int .u8 (pl:Int),vb,vr,vt],c] w (.bool (poB c&&pl.testBit c.toNat)):=by
 have D0:=Below.alN (Below.refl w w) (dvC nm kd ad pl vb vr vt);unfold poB;cases h0:decide (0<=c)
 ·go_enter func183,ntmps183;go_wp2_with fail;go_ret;exact⟨by simp,D0⟩
 cases h1:decide (c<8)
 ·go_enter func183,ntmps183;go_wp2_with fail;go_ret;exact⟨by simp,D0⟩
 have hc:c=0\/c=1\/c=2\/c=3\/c=4\/c=5\/c=6\/c=7:=by
  simp at h0 h1;omega
 simp only[Bool.true_and];rcases hc with rfl|rfl|rfl|rfl|rfl|rfl|rfl|rfl
 ·exact qY nm kd ad pl vb vr vt w hp
 ·exact qZ nm kd ad pl vb vr vt w hp
 ·exact re nm kd ad pl vb vr vt w hp
 ·exact rg nm kd ad pl vb vr vt w hp
 ·exact rj nm kd ad pl vb vr vt w hp
 ·exact rk nm kd ad pl vb vr vt w hp
 ·exact rm nm kd ad pl vb vr vt w hp
 ·exact ro nm kd ad pl vb vr vt w hp
theorem lZ(M:Mnd)(i:Int)(s:Int × Int):∀(f k:Nat),8-k<=f->∀{j:Nat},aL M i s k=some j->aj (j:Int)
 | 0,k,h,j,e=>by
   rw[jZ _ _ _ (by omega)]at e;cases e
 | f+1,k,h,j,e=>by
   by_cases hk:k<8
   ·rw[lX _ _ _ hk]at e
    split at e
    ·obtain rfl:=Option.some.inj e;exact lY hk
    ·exact lZ M i s f (k+1) (by omega) e
   ·rw[jZ _ _ _ (by omega)]at e;cases e
theorem rr(m:Mp)(ds:List Dv)(ls:List Lk)(n:Nat)(M:Mnd)(i:Nat)(d:Dv)(p:Pk)(c:Int)(w:World)(hM:Hid (MemAt w m ds ls n M))(hx:Hid (ds[i]?=some d))(hi:Hid (aj (i:Int)))(hc:Hid (aj c)) :
  Cl 147 #[.pointer (some ⟨m.B,m.z,none⟩),(i:Int),pkV p,c] w (aP m w (eS d M i p c)):=by
 have M2:=(((hM.out.alloc (.cells #[.pointer (some ⟨m.B,m.z,none⟩)] 100)).alloc (.cells #[(i:Int)] 3)).alloc (pkC p)).alloc lvC;have D2:=Below.alN (Below.alN (Below.alN (Below.alN (Below.refl w w) (.cells #[.pointer (some ⟨m.B,m.z,none⟩)] 100)) (.cells #[(i:Int)] 3)) (pkC p)) lvC;have B2:=(((ah w #[.pointer (some ⟨m.B,m.z,none⟩)] 100).alloc (.cells #[(i:Int)] 3)).alloc (pkC p)).alloc lvC;have I2:=((ax (w.alloc (.cells #[.pointer (some ⟨m.B,m.z,none⟩)] 100)) #[(i:Int)] 3 (w.heap.size+1) (by simp)).alloc (pkC p)).alloc lvC;have P2:=(ax ((w.alloc (.cells #[.pointer (some ⟨m.B,m.z,none⟩)] 100)).alloc (.cells #[(i:Int)] 3)) #[p.s,p.d,p.sp,p.dp] 37 (w.heap.size+1+1) (by simp)).alloc lvC;have L2:=ax (((w.alloc (.cells #[.pointer (some ⟨m.B,m.z,none⟩)] 100)).alloc (.cells #[(i:Int)] 3)).alloc (pkC p)) #[.int .i64 0,.int .i64 0,.int .i64 0,.int .i64 0,.int .i64 0,.nilFunc] 214 (w.heap.size+1+1+1) (by simp);obtain⟨q0,_,_,_,_⟩:=M2.cells;obtain⟨b,o,vb,vr,vt,eA,HD,k1,k2⟩:=M2.dev hx.out;rw[eA]at q0;obtain⟨c0,c1,c2,c3,c4,c5,c6,s1,s2,s3⟩:=HD;have CZ:=CK.of_below ((Below.refl _ ((((w.alloc (.cells #[.pointer (some ⟨m.B,m.z,none⟩)] 100)).alloc (.cells #[(i:Int)] 3)).alloc (pkC p)).alloc lvC)).alloc (Nat.le_refl _) (.cells #[.string ⟨#[]⟩,.int .i64 0,.int .i64 0,.int .u8 0,.slice none 0 0,.slice none 0 0,.slice none 0 0] 70));have q0z:=CZ.cell q0;have c0z:=CZ.cell c0;have c1z:=CZ.cell c1;have c2z:=CZ.cell c2;have c3z:=CZ.cell c3;have c4z:=CZ.cell c4;have c5z:=CZ.cell c5;have c6z:=CZ.cell c6;clear CZ;obtain⟨Ab,cb,rfl,_,_,_,_⟩:=s1;obtain⟨Ar,cr,rfl,_,_,_,_⟩:=s2;obtain⟨At,ct,rfl,_,_,_,_⟩:=s3;obtain⟨s,dd,sp,dp⟩:=p;generalize hr:eS d M i ⟨s,dd,sp,dp⟩ c=r;have HR:Hid (r=match aL M i (s,sp) 0 with
  | some k=>⟨0,1,⟨d.addr,dd,(k:Int),dp⟩,.own i (k:Int) (s,sp)⟩
  | none=>if poB c&&d.pool.testBit c.toNat then(if(M.ow (i,c)).isSome then aF 6 else⟨0,1,⟨d.addr,dd,c,dp⟩,.own i c (s,sp)⟩)else aF 1):=hr.symm
 have OP:Hid (∀W,MemAt W m ds ls n M->CB 182 #[.pointer (some ⟨m.B,m.z,none⟩),(i:Int),.agg #[s,sp]] W (.tuple #[.int .i64 (((aL M i (s,sp) 0).getD 0:Nat):Int),.bool (aL M i (s,sp) 0).isSome])):=λW h=>qW m ds ls n M i s sp W h hi;have HK8:Hid (∀k,aL M i (s,sp) 0=some k->aj (k:Int)):=λk h=>lZ M i (s,sp) 8 0 (by omega) h;have hpl:=d.hp;have IP:Hid (∀W,CB 183 #[.agg #[.string d.name,d.kind,d.addr,.int .u8 (d.pool:Int),.slice Ab d.backs.length cb,.slice Ar (rulesOf d).length cr,.slice At (routesOf d).length ct],c] W (.bool (poB c&&d.pool.testBit c.toNat))):=λW=>rq _ _ _ _ _ _ _ c W hpl;have HL:Hid (∀W,MemAt W m ds ls n M->(Instr.lookup 104 (.map (some m.o)) (.agg #[(i:Int),c]) true).run prog W=.ok (.tuple #[.agg #[.int .i64 ((M.ow (i,c)).getD (0,0)).1,.int .i64 ((M.ow (i,c)).getD (0,0)).2],.bool (M.ow (i,c)).isSome]) W):=λW h=>h.lookO hi.out hc.out;clear hr hx hM eA hpl;simp only at *;generalize (poB c&&d.pool.testBit c.toNat)=x1 at *;generalize (rulesOf d).length=nr at *;generalize (routesOf d).length=nt at *;generalize d.backs.length=nb at *;generalize d.name=nm at *;generalize d.kind=kd at *;generalize d.addr=ad at *;generalize d.pool=pl at *;go_enter func147,ntmps147;go_wp2_with fail;go_cut [10] (λv10 wx=>∃g,v10=.pointer (some ⟨g,0,none⟩) /\ Bk wx g #[.string nm,kd,ad,.int .u8 (pl:Int),.slice Ab nb cb,.slice Ar nr cr,.slice At nt ct] 70 /\ w.heap.size+1+1+1<g /\ Bk wx w.heap.size #[.pointer (some ⟨m.B,m.z,none⟩)] 100 /\ Bk wx (w.heap.size+1) #[(i:Int)] 3 /\ Bk wx (w.heap.size+1+1) #[s,dd,sp,dp] 37 /\ Bk wx (w.heap.size+1+1+1) #[.int .i64 0,.int .i64 0,.int .i64 0,.int .i64 0,.int .i64 0,.nilFunc] 214 /\ MemAt wx m ds ls n M /\ Below w w wx)
 case first =>
  go_region;all_goals
   go_wp2_with fail
   go_meet
   exact⟨_,rfl,(ax _ _ _ _ (by simp)).drew,by simp,(B2.alloc _).drew,(I2.alloc _).drew,(P2.alloc _).drew,(L2.alloc _).drew,(M2.alloc _).drew,(Below.alN D2 _).drew⟩
 case rest =>
  clear M2 P2 L2 D2 B2 I2 q0 c0 c1 c2 c3 c4 c5 c6 q0z c0z c1z c2z c3z c4z c5z c6z;obtain⟨g,rfl,V4,zg,B4,I4,P4,L4,M4,D4⟩:=hcut;obtain⟨p0,p1,p2,p3,_⟩:=P4.four;obtain⟨b0,_⟩:=B4.one;obtain⟨i0,_⟩:=I4.one;have z1:w.heap.size<wc.heap.size:=B4.lt;have z2:w.heap.size+1<wc.heap.size:=I4.lt;have M5:=M4.alloc (.cells #[s,sp] 180);go_wp2_with fail;refine(OP.out _ M5).mono ?_;rintro e w6⟨rfl,hb6⟩;have S6:=(ah wc #[s,sp] 180).keep hb6;have V6:=(V4.alloc (.cells #[s,sp] 180)).keep hb6;have B6:=(B4.alloc (.cells #[s,sp] 180)).keep hb6;have I6:=(I4.alloc (.cells #[s,sp] 180)).keep hb6;have P6:=(P4.alloc (.cells #[s,sp] 180)).keep hb6;have L6:=(L4.alloc (.cells #[s,sp] 180)).keep hb6;have M6:=M5.below hb6;have D6:=aa hb6 (Below.alN D4 (.cells #[s,sp] 180));have zc:g<wc.heap.size:=V4.lt;have zw:wc.heap.size<w6.heap.size:=S6.lt;generalize wc.heap.size=sn at *;clear hb6 M5 OP V4 B4 I4 P4 L4 M4 D4 b0 i0 p0 p1 p2 p3 z1 z2;cases y:aL M i (s,sp) 0 with
  | some k =>
    have HV:Hid (r=⟨0,1,⟨ad,dd,(k:Int),dp⟩,.own i (k:Int) (s,sp)⟩):=by show _=_;rw[HR.out,y]
    have hk:Hid (aj (k:Int)):=HK8.out k y;clear y HR IP HL HK8;have Q7:=ah w6 #[(k:Int)] 3;have S7:=S6.alloc (.cells #[(k:Int)] 3);have V7:=V6.alloc (.cells #[(k:Int)] 3);have B7:=B6.alloc (.cells #[(k:Int)] 3);have I7:=I6.alloc (.cells #[(k:Int)] 3);have P7:=P6.alloc (.cells #[(k:Int)] 3);have L7:=L6.alloc (.cells #[(k:Int)] 3);have D7:=Below.alN D6 (.cells #[(k:Int)] 3);have zq:sn<w6.heap.size:=zw;clear S6 V6 B6 I6 P6 L6 M6 D6;simp only[Option.getD_some,Option.isSome_some];go_wp2_with fail;generalize hqn:w6.heap.size=qn at *;generalize hW:w6.alloc (.cells #[(k:Int)] 3)=w7 at *;clear hW hqn;obtain⟨qc,_⟩:=Q7.one;obtain⟨v0,v1,v2,v3,v4,v5,v6⟩:=V7.seven;obtain⟨p0,p1,p2,p3,pf0,pf1,pf2,pf3⟩:=P7.four;go_cut [] (λwx=>Bk wx qn #[(k:Int)] 3 /\ Bk wx sn #[s,sp] 180 /\ Bk wx w.heap.size #[.pointer (some ⟨m.B,m.z,none⟩)] 100 /\ Bk wx (w.heap.size+1) #[(i:Int)] 3 /\ Bk wx (w.heap.size+1+1) #[ad,dd,(k:Int),dp] 37 /\ Bk wx (w.heap.size+1+1+1) #[.int .i64 0,.int .i64 0,.int .i64 0,.int .i64 0,.int .i64 0,.nilFunc] 214 /\ Below w w wx)
    case first =>
     go_region;all_goals
      go_wp2_with fail
      go_meet
      exact⟨((Q7.drew.setO (by omega) _).setO (by omega) _),((S7.drew.setO (by omega) _).setO (by omega) _),((B7.drew.setO (by omega) _).setO (by omega) _),((I7.drew.setO (by omega) _).setO (by omega) _),by have:=((P7.setS (j:=0) (.int .i64 ad)).setS (j:=2) (.int .i64 (k:Int))).drew;simpa using this,((L7.drew.setO (by omega) _).setO (by omega) _),(D7.drew.setCell (by simp;omega) _).setCell (by simp;omega) _⟩
    case rest =>
     clear Q7 S7 V7 B7 I7 P7 L7 D7 qc v0 v1 v2 v3 v4 v5 v6 p0 p1 p2 p3 pf0 pf1 pf2 pf3;obtain⟨Q9,S9,B9,I9,P9,L9,D9⟩:=hcut;obtain⟨p0,p1,p2,p3,_⟩:=P9.four;obtain⟨⟨l0,l1,l2,l3,l4,l5⟩,⟨f0,f1,f2,f3,f4,f5⟩⟩:=L9.six;go_wp2_with fail;refine bodyPost_ret (v:=.tuple #[lvA 1 ⟨ad,dd,(k:Int),dp⟩ (.func (.func 184) #[] #[.pointer sn,.pointer (some ⟨w,0,none⟩),.pointer (some ⟨w.heap.size+1,0,none⟩),.pointer qn]),.int .i64 0]) (by simp[results,results147,go_sem,l0,l1,l2,l3,l4,l5]) rfl ⟨_,_,_,0,rfl,?_,?_⟩
     ·rw[HV.out];obtain⟨e0,e1⟩:=S9.two;obtain⟨e2,_⟩:=B9.one;obtain⟨e3,_⟩:=I9.one;obtain⟨e4,_⟩:=Q9.one;have zs:¬sn=w.heap.size+1+1+1:=by omega
      have zq:¬qn=w.heap.size+1+1+1:=by omega
      exact⟨rfl,Or.inr ⟨_,_,rfl⟩,λ_=>⟨rfl,rfl,hi.out,hk.out,_,_,_,_,rfl,by omega,by omega,by omega,by omega,by simp[go_sem,e0],by simp[go_sem,e1],by simp[go_sem,e2],by simp[go_sem,e3],by simp[go_sem,e4]⟩⟩
     ·go_grown
  | none =>
    have HR2:Hid (r=if x1 then(if(M.ow (i,c)).isSome then aF 6 else⟨0,1,⟨ad,dd,c,dp⟩,.own i c (s,sp)⟩)else aF 1):=by show _=_;rw[HR.out,y]
    clear y HR HK8;have Q7:=ah w6 #[.int .i64 0] 3;have S7:=S6.alloc (.cells #[.int .i64 0] 3);have V7:=V6.alloc (.cells #[.int .i64 0] 3);have B7:=B6.alloc (.cells #[.int .i64 0] 3);have I7:=I6.alloc (.cells #[.int .i64 0] 3);have P7:=P6.alloc (.cells #[.int .i64 0] 3);have L7:=L6.alloc (.cells #[.int .i64 0] 3);have M7:=M6.alloc (.cells #[.int .i64 0] 3);have D7:=Below.alN D6 (.cells #[.int .i64 0] 3);clear S6 B6 I6 P6 L6 M6 D6;simp only[Option.getD_none,Option.isSome_none];obtain⟨v0,v1,v2,v3,v4,v5,v6⟩:=V6.seven;have zv:g<w6.heap.size:=V6.lt;go_wp2_with fail;refine(IP.out _).mono ?_;rintro e w8⟨rfl,hb8⟩;have Q8:=Q7.keep hb8;have S8:=S7.keep hb8;have V8:=V7.keep hb8;have B8:=B7.keep hb8;have I8:=I7.keep hb8;have P8:=P7.keep hb8;have L8:=L7.keep hb8;have M8:=M7.below hb8;have D8:=aa hb8 D7;clear hb8 Q7 S7 V7 B7 I7 P7 L7 M7 D7 V6 v0 v1 v2 v3 v4 v5 v6 IP zv;generalize w6.heap.size=qn at *;obtain⟨⟨l0,l1,l2,l3,l4,l5⟩,⟨f0,f1,f2,f3,f4,f5⟩⟩:=L8.six;cases x1
    ·have HV:Hid (r=aF 1):=HR2.out;go_wp2_with fail;refine bodyPost_ret (v:=.tuple #[lvA 0 zeroP .nilFunc,.int .i64 1]) (by simp[results,results147,go_sem,l0,l1,l2,l3,l4,l5,zeroP]) rfl ⟨0,zeroP,.nilFunc,1,rfl,?_,?_⟩
     ·rw[HV.out];exact⟨rfl,Or.inl rfl,λh=>by cases h⟩
     ·go_grown
    have HR3:Hid (r=if(M.ow (i,c)).isSome then aF 6 else⟨0,1,⟨ad,dd,c,dp⟩,.own i c (s,sp)⟩):=HR2.out;clear HR2;have lk:=HL.out _ (M8.alloc (.cells #[.int .i64 0,.int .i64 0] 180)).drew;have lk2:=HL.out _ M8.drew;obtain⟨_,_,_,qo,_⟩:=(M8.alloc (.cells #[.int .i64 0,.int .i64 0] 180)).cells;obtain⟨_,_,_,qo2,_⟩:=M8.cells;obtain⟨b0,_⟩:=B8.one;obtain⟨i0,_⟩:=I8.one;have z1:w.heap.size<w8.heap.size:=B8.lt;have z2:w.heap.size+1<w8.heap.size:=I8.lt;generalize ((M.ow (i,c)).getD (0,0)).1=ea at *;generalize ((M.ow (i,c)).getD (0,0)).2=eb at *;generalize (M.ow (i,c)).isSome=x2 at *;clear HL l0 l1 l2 l3 l4 l5 f0 f1 f2 f3 f4 f5;go_wp2_with fail;go_cut [15] (λv15 wx=>v15=.bool x2 /\ Bk wx qn #[.int .i64 0] 3 /\ Bk wx sn #[s,sp] 180 /\ Bk wx g #[.string nm,kd,ad,.int .u8 (pl:Int),.slice Ab nb cb,.slice Ar nr cr,.slice At nt ct] 70 /\ Bk wx w.heap.size #[.pointer (some ⟨m.B,m.z,none⟩)] 100 /\ Bk wx (w.heap.size+1) #[(i:Int)] 3 /\ Bk wx (w.heap.size+1+1) #[s,dd,sp,dp] 37 /\ Bk wx (w.heap.size+1+1+1) #[.int .i64 0,.int .i64 0,.int .i64 0,.int .i64 0,.int .i64 0,.nilFunc] 214 /\ Below w w wx)
    case first =>
     go_region;all_goals
      go_wp2_with fail
      go_meet
      exact⟨rfl,(Q8.alloc _).drew,(S8.alloc _).drew,(V8.alloc _).drew,(B8.alloc _).drew,(I8.alloc _).drew,(P8.alloc _).drew,(L8.alloc _).drew,(Below.alN D8 _).drew⟩
    case rest =>
     clear Q8 S8 V8 B8 I8 P8 L8 M8 D8 lk lk2 qo qo2 b0 i0 z1 z2;obtain⟨rfl,Q9,S9,V9,B9,I9,P9,L9,D9⟩:=hcut;cases x2
     rotate_left
     ·have HV:Hid (r=aF 6):=HR3.out;obtain⟨⟨l0,l1,l2,l3,l4,l5⟩,⟨f0,f1,f2,f3,f4,f5⟩⟩:=L9.six;go_wp2_with fail;refine bodyPost_ret (v:=.tuple #[lvA 0 zeroP .nilFunc,.int .i64 6]) (by simp[results,results147,go_sem,l0,l1,l2,l3,l4,l5,zeroP]) rfl ⟨0,zeroP,.nilFunc,6,rfl,?_,?_⟩
      ·rw[HV.out];exact⟨rfl,Or.inl rfl,λh=>by cases h⟩
      ·go_grown
     have HV:Hid (r=⟨0,1,⟨ad,dd,c,dp⟩,.own i c (s,sp)⟩):=HR3.out;obtain⟨qc,qf⟩:=Q9.one;have Q7:=Q9.setS (j:=0) (.int .i64 c);have S7:=S9.setO (b:=qn) (j:=0) (by omega) (.int .i64 c);have V7:=V9.setO (b:=qn) (j:=0) (by omega) (.int .i64 c);have B7:=B9.setO (b:=qn) (j:=0) (by omega) (.int .i64 c);have I7:=I9.setO (b:=qn) (j:=0) (by omega) (.int .i64 c);have P7:=P9.setO (b:=qn) (j:=0) (by omega) (.int .i64 c);have L7:=L9.setO (b:=qn) (j:=0) (by omega) (.int .i64 c);have D7:=D9.setCell (p:=⟨qn,0,none⟩) (by simp;omega) (.int .i64 c);have hk:Hid (aj c):=hc;clear Q9 S9 V9 B9 I9 P9 L9 D9 HR3;simp only[List.setIfInBounds_toArray,List.set_cons_zero]at Q7;go_wp2_with fail
     rename_i wq
     generalize hW:World.setCell _ _ (.int .i64 c)=w7 at *;clear hW qc qf;obtain⟨qc,_⟩:=Q7.one;obtain⟨v0,v1,v2,v3,v4,v5,v6⟩:=V7.seven;obtain⟨p0,p1,p2,p3,pf0,pf1,pf2,pf3⟩:=P7.four;go_cut [] (λwx=>Bk wx qn #[c] 3 /\ Bk wx sn #[s,sp] 180 /\ Bk wx w.heap.size #[.pointer (some ⟨m.B,m.z,none⟩)] 100 /\ Bk wx (w.heap.size+1) #[(i:Int)] 3 /\ Bk wx (w.heap.size+1+1) #[ad,dd,c,dp] 37 /\ Bk wx (w.heap.size+1+1+1) #[.int .i64 0,.int .i64 0,.int .i64 0,.int .i64 0,.int .i64 0,.nilFunc] 214 /\ Below w w wx)
     case first =>
      go_region;all_goals
       go_wp2_with fail
       go_meet
       exact⟨((Q7.drew.setO (by omega) _).setO (by omega) _),((S7.drew.setO (by omega) _).setO (by omega) _),((B7.drew.setO (by omega) _).setO (by omega) _),((I7.drew.setO (by omega) _).setO (by omega) _),by have:=((P7.setS (j:=0) (.int .i64 ad)).setS (j:=2) (.int .i64 c)).drew;simpa using this,((L7.drew.setO (by omega) _).setO (by omega) _),(D7.drew.setCell (by simp;omega) _).setCell (by simp;omega) _⟩
     case rest =>
      clear Q7 S7 V7 B7 I7 P7 L7 D7 qc v0 v1 v2 v3 v4 v5 v6 p0 p1 p2 p3 pf0 pf1 pf2 pf3;obtain⟨Q9,S9,B9,I9,P9,L9,D9⟩:=hcut;obtain⟨p0,p1,p2,p3,_⟩:=P9.four;obtain⟨⟨l0,l1,l2,l3,l4,l5⟩,⟨f0,f1,f2,f3,f4,f5⟩⟩:=L9.six;go_wp2_with fail;refine bodyPost_ret (v:=.tuple #[lvA 1 ⟨ad,dd,c,dp⟩ (.func (.func 184) #[] #[.pointer sn,.pointer (some ⟨w,0,none⟩),.pointer (some ⟨w.heap.size+1,0,none⟩),.pointer qn]),.int .i64 0]) (by simp[results,results147,go_sem,l0,l1,l2,l3,l4,l5]) rfl ⟨_,_,_,0,rfl,?_,?_⟩
      ·rw[HV.out];obtain⟨e0,e1⟩:=S9.two;obtain⟨e2,_⟩:=B9.one;obtain⟨e3,_⟩:=I9.one;obtain⟨e4,_⟩:=Q9.one;have zs:¬sn=w.heap.size+1+1+1:=by omega
       have zq:¬qn=w.heap.size+1+1+1:=by omega
       exact⟨rfl,Or.inr ⟨_,_,rfl⟩,λ_=>⟨rfl,rfl,hi.out,hk.out,_,_,_,_,rfl,by omega,by omega,by omega,by omega,by simp[go_sem,e0],by simp[go_sem,e1],by simp[go_sem,e2],by simp[go_sem,e3],by simp[go_sem,e4]⟩⟩
      ·go_grown
theorem ru(m:Mp)(ds:List Dv)(ls:List Lk)(n:Nat)(M:Mnd)(i:Nat)(d:Dv)(p:Pk)(c:Int)(w:World)(hM:Hid (MemAt w m ds ls n M))(hx:Hid (ds[i]?=some d))(hp:Hid p.ok)(hi:Hid (aj (i:Int))) :
  Cl 149 #[.pointer (some ⟨m.B,m.z,none⟩),(i:Int),pkV p,c] w (aP m w (ez d M i p c)):=by
 have M2:=((hM.out.alloc (.cells #[.pointer (some ⟨m.B,m.z,none⟩)] 100)).alloc (pkC p)).alloc lvC;have D2:=Below.alN (Below.alN (Below.alN (Below.refl w w) (.cells #[.pointer (some ⟨m.B,m.z,none⟩)] 100)) (pkC p)) lvC;have B2:=((ah w #[.pointer (some ⟨m.B,m.z,none⟩)] 100).alloc (pkC p)).alloc lvC;have P2:=(ax (w.alloc (.cells #[.pointer (some ⟨m.B,m.z,none⟩)] 100)) #[p.s,p.d,p.sp,p.dp] 37 (w.heap.size+1) (by simp)).alloc lvC;have L2:=ax ((w.alloc (.cells #[.pointer (some ⟨m.B,m.z,none⟩)] 100)).alloc (pkC p)) #[.int .i64 0,.int .i64 0,.int .i64 0,.int .i64 0,.int .i64 0,.nilFunc] 214 (w.heap.size+1+1) (by simp);obtain⟨q0,_,_,_,_⟩:=M2.cells;obtain⟨b,o,vb,vr,vt,eA,HD,k1,k2⟩:=M2.dev hx.out;rw[eA]at q0;obtain⟨c0,c1,c2,c3,c4,c5,c6,s1,s2,s3⟩:=HD;have HBK:Hid (∀W,Below ((((w.alloc (.cells #[.pointer (some ⟨m.B,m.z,none⟩)] 100)).alloc (pkC p)).alloc lvC)).heap.size (((w.alloc (.cells #[.pointer (some ⟨m.B,m.z,none⟩)] 100)).alloc (pkC p)).alloc lvC) W->SlAt W W 1 IsI vb d.backs):=λW h=>SlAt.mono (SlAt.below s1 h (λ_ _ _ h=>h)) h.size (λ_ _ _ h=>h);obtain⟨Ab,cb,rfl,_,_,_,_⟩:=s1;obtain⟨Ar,cr,rfl,_,_,_,_⟩:=s2;obtain⟨At,ct,rfl,_,_,_,_⟩:=s3;have PS:Hid (∀(q:Int) (p:Pk) W,CB 180 #[.int .i64 q,pkV p] W (.tuple #[lvA q p (.func (.func 208) #[] #[]),.int .i64 0])):=λq p W=>gL q p W;obtain⟨s,dd,sp,dp⟩:=p;generalize hr:ez d M i ⟨s,dd,sp,dp⟩ c=r;have HR:Hid (r=if dd == d.addr then
  (match M.bk (i,⟨s,dd,sp,dp⟩)with
  | some b=>⟨0,1,⟨s,b,sp,dp⟩,.back i ⟨s,dd,sp,dp⟩ b⟩
  | none=>if decide (0<=c)&&decide (c<(d.backs.length:Int))then⟨0,1,⟨s,d.backs.getD c.toNat 0,sp,dp⟩,.back i ⟨s,dd,sp,dp⟩ (d.backs.getD c.toNat 0)⟩else aF 1)
  else aR 1 ⟨s,dd,sp,dp⟩):=hr.symm
 have HL:Hid (∀W,MemAt W m ds ls n M->(Instr.lookup 105 (.map (some m.k)) (.agg #[(i:Int),s,dd,sp,dp]) true).run prog W=.ok (.tuple #[.int .i64 ((M.bk (i,⟨s,dd,sp,dp⟩)).getD 0),.bool (M.bk (i,⟨s,dd,sp,dp⟩)).isSome]) W):=λW h=>h.lookB (p:=⟨s,dd,sp,dp⟩) hi.out hp.out;have HBV:Hid (∀k:Nat,k<d.backs.length->∃x,d.backs[k]?=some x /\ d.backs.getD k 0=x):=λk h=>⟨d.backs[k],List.getElem?_eq_getElem h,by simp[List.getD_eq_getElem?_getD,h]⟩;clear hr hx hM eA;simp only at *;generalize (rulesOf d).length=nr at *;generalize (routesOf d).length=nt at *;generalize hnb:d.backs.length=nb at *;have HNB:Hid (d.backs.length=nb):=hnb;clear hnb;generalize d.name=nm at *;generalize d.kind=kd at *;generalize d.addr=ad at *;generalize d.pool=pl at *;have D3:=Below.alN D2 (dvC nm kd ad pl (.slice Ab nb cb) (.slice Ar nr cr) (.slice At nt ct));have E3:=Below.alN (Below.refl ((((w.alloc (.cells #[.pointer (some ⟨m.B,m.z,none⟩)] 100)).alloc (pkC ⟨s,dd,sp,dp⟩)).alloc lvC)).heap.size (((w.alloc (.cells #[.pointer (some ⟨m.B,m.z,none⟩)] 100)).alloc (pkC ⟨s,dd,sp,dp⟩)).alloc lvC)) (dvC nm kd ad pl (.slice Ab nb cb) (.slice Ar nr cr) (.slice At nt ct));have B3:=B2.alloc (dvC nm kd ad pl (.slice Ab nb cb) (.slice Ar nr cr) (.slice At nt ct));have P3:=P2.alloc (dvC nm kd ad pl (.slice Ab nb cb) (.slice Ar nr cr) (.slice At nt ct));have L3:=L2.alloc (dvC nm kd ad pl (.slice Ab nb cb) (.slice Ar nr cr) (.slice At nt ct));have M3:=M2.alloc (dvC nm kd ad pl (.slice Ab nb cb) (.slice Ar nr cr) (.slice At nt ct));have V3:=ax (((w.alloc (.cells #[.pointer (some ⟨m.B,m.z,none⟩)] 100)).alloc (pkC ⟨s,dd,sp,dp⟩)).alloc lvC) #[.string nm,kd,ad,.int .u8 (pl:Int),.slice Ab nb cb,.slice Ar nr cr,.slice At nt ct] 70 (w.heap.size+1+1+1) (by simp);cases ha:(dd == ad)
 ·have HV:Hid (r=aR 1 ⟨s,dd,sp,dp⟩):=by show _=_;rw[HR.out,ha];rfl
  clear HR HL HBV HBK;go_enter func149,ntmps149;go_wp2_with fail;refine(PS.out _ ⟨s,dd,sp,dp⟩ _).mono ?_;rintro e w9⟨rfl,hb9⟩;have D9:=aa hb9 D3;have L9:=L3.keep hb9;obtain⟨⟨l0,l1,l2,l3,l4,l5⟩,⟨f0,f1,f2,f3,f4,f5⟩⟩:=L9.six;go_wp2_with fail;refine bodyPost_ret (v:=.tuple #[lvA 1 ⟨s,dd,sp,dp⟩ (.func (.func 208) #[] #[]),.int .i64 0]) (by simp[results,results149,go_sem,l0,l1,l2,l3,l4,l5]) rfl ⟨_,_,_,0,rfl,?_,?_⟩
  ·rw[HV.out];exact⟨rfl,Or.inr ⟨_,_,rfl⟩,λ_=>⟨rfl,rfl,rfl⟩⟩
  ·go_grown
 have HR1:Hid (r=(match M.bk (i,⟨s,dd,sp,dp⟩)with
  | some b=>⟨0,1,⟨s,b,sp,dp⟩,.back i ⟨s,dd,sp,dp⟩ b⟩
  | none=>if decide (0<=c)&&decide (c<(nb:Int))then⟨0,1,⟨s,d.backs.getD c.toNat 0,sp,dp⟩,.back i ⟨s,dd,sp,dp⟩ (d.backs.getD c.toNat 0)⟩else aF 1)):=by show _=_;rw[HR.out,ha];rfl
 clear HR;have D4:=Below.alN D3 (.cells #[(i:Int),s,dd,sp,dp] 175);have E4:=Below.alN E3 (.cells #[(i:Int),s,dd,sp,dp] 175);have B4:=B3.alloc (.cells #[(i:Int),s,dd,sp,dp] 175);have P4:=P3.alloc (.cells #[(i:Int),s,dd,sp,dp] 175);have L4:=L3.alloc (.cells #[(i:Int),s,dd,sp,dp] 175);have M4:=M3.alloc (.cells #[(i:Int),s,dd,sp,dp] 175);have V4:=V3.alloc (.cells #[(i:Int),s,dd,sp,dp] 175);have A4:=ax ((((w.alloc (.cells #[.pointer (some ⟨m.B,m.z,none⟩)] 100)).alloc (pkC ⟨s,dd,sp,dp⟩)).alloc lvC).alloc (dvC nm kd ad pl (.slice Ab nb cb) (.slice Ar nr cr) (.slice At nt ct))) #[(i:Int),s,dd,sp,dp] 175 (w.heap.size+1+1+1+1) (by simp);have lk:=HL.out _ (M4.alloc (.cells #[.int .i64 0] 3)).drew;have lk2:=HL.out _ M4.drew;obtain⟨_,_,_,_,qo⟩:=(M4.alloc (.cells #[.int .i64 0] 3)).cells;obtain⟨_,_,_,_,qo2⟩:=M4.cells;clear HL M2 M3 B2 P2 L2 B3 P3 L3 V3 D2 D3 E3;obtain⟨x,x0,hxv,hx0⟩:∃x x0,(M.bk (i,⟨s,dd,sp,dp⟩)).getD 0=x /\ (M.bk (i,⟨s,dd,sp,dp⟩)).isSome=x0:=⟨_,_,rfl,rfl⟩;have HR2:Hid (r=if x0 then⟨0,1,⟨s,x,sp,dp⟩,.back i ⟨s,dd,sp,dp⟩ x⟩else if decide (0<=c)&&decide (c<(nb:Int))then⟨0,1,⟨s,d.backs.getD c.toNat 0,sp,dp⟩,.back i ⟨s,dd,sp,dp⟩ (d.backs.getD c.toNat 0)⟩else aF 1):=by
  show _=_;rw[HR1.out,<- hxv,<- hx0];cases M.bk (i,⟨s,dd,sp,dp⟩) <;> rfl
 rw[hxv,hx0]at lk lk2;clear HR1 hxv hx0;go_enter func149,ntmps149;go_wp2_with fail;go_cut [12,13] (λv12 v13 wx=>∃q,v12=.pointer (some ⟨q,0,none⟩) /\ v13=.bool x0 /\ Bk wx q #[.int .i64 x] 3 /\ w.heap.size+1+1+1+1<q /\ Bk wx (w.heap.size+1+1+1+1) #[(i:Int),s,dd,sp,dp] 175 /\ Bk wx (w.heap.size+1+1+1) #[.string nm,kd,ad,.int .u8 (pl:Int),.slice Ab nb cb,.slice Ar nr cr,.slice At nt ct] 70 /\ Bk wx w.heap.size #[.pointer (some ⟨m.B,m.z,none⟩)] 100 /\ Bk wx (w.heap.size+1) #[s,dd,sp,dp] 37 /\ Bk wx (w.heap.size+1+1) #[.int .i64 0,.int .i64 0,.int .i64 0,.int .i64 0,.int .i64 0,.nilFunc] 214 /\ Below w w wx /\ Below ((((w.alloc (.cells #[.pointer (some ⟨m.B,m.z,none⟩)] 100)).alloc (pkC ⟨s,dd,sp,dp⟩)).alloc lvC)).heap.size (((w.alloc (.cells #[.pointer (some ⟨m.B,m.z,none⟩)] 100)).alloc (pkC ⟨s,dd,sp,dp⟩)).alloc lvC) wx)
 case first =>
  go_region;all_goals
   go_wp2_with fail
   go_meet
   exact⟨_,rfl,rfl,(ax _ _ _ _ (by simp)).drew,by simp,(A4.alloc _).drew,(V4.alloc _).drew,(B4.alloc _).drew,(P4.alloc _).drew,(L4.alloc _).drew,(Below.alN D4 _).drew,(Below.alN E4 _).drew⟩
 case rest =>
  clear lk lk2 qo qo2 M4 A4 V4 B4 P4 L4 D4 E4;obtain⟨q,rfl,rfl,Q5,zq,A5,V5,B5,P5,L5,D5,E5⟩:=hcut;have z1:w.heap.size+1+1+1+1<wc.heap.size:=A5.lt;cases x0
  rotate_left
  ·have HV:Hid (r=⟨0,1,⟨s,x,sp,dp⟩,.back i ⟨s,dd,sp,dp⟩ x⟩):=HR2.out;clear HR2 HBV HBK E5;obtain⟨qc,qf⟩:=Q5.one;obtain⟨p0,p1,p2,p3,pf0,pf1,pf2,pf3⟩:=P5.four;go_upto_region 10 with fail;go_cut [] (λwx=>Bk wx q #[.int .i64 x] 3 /\ Bk wx (w.heap.size+1+1+1+1) #[(i:Int),s,dd,sp,dp] 175 /\ Bk wx w.heap.size #[.pointer (some ⟨m.B,m.z,none⟩)] 100 /\ Bk wx (w.heap.size+1) #[s,.int .i64 x,sp,dp] 37 /\ Bk wx (w.heap.size+1+1) #[.int .i64 0,.int .i64 0,.int .i64 0,.int .i64 0,.int .i64 0,.nilFunc] 214 /\ Below w w wx)
   case first =>
    go_wp2_with fail
    go_meet
    exact⟨Q5.setO (by omega) _,A5.setO (by omega) _,B5.setO (by omega) _,by have:=P5.setS (j:=1) (.int .i64 x);simpa using this,L5.setO (by omega) _,D5.setCell (by simp) _⟩
   case rest =>
    clear Q5 A5 B5 P5 L5 D5 qc qf p0 p1 p2 p3 pf0 pf1 pf2 pf3;obtain⟨Q9,A9,B9,P9,L9,D9⟩:=hcut;obtain⟨p0,p1,p2,p3,_⟩:=P9.four;obtain⟨⟨l0,l1,l2,l3,l4,l5⟩,⟨f0,f1,f2,f3,f4,f5⟩⟩:=L9.six;go_wp2_with fail;refine bodyPost_ret (v:=.tuple #[lvA 1 ⟨s,x,sp,dp⟩ (.func (.func 185) #[] #[.pointer (some ⟨q,0,none⟩),.pointer (some ⟨w,0,none⟩),.pointer (some ⟨w.heap.size+1+1+1+1,0,none⟩)]),.int .i64 0]) (by simp[results,results149,go_sem,l0,l1,l2,l3,l4,l5]) rfl ⟨_,_,_,0,rfl,?_,?_⟩
    ·rw[HV.out];obtain⟨e0,_⟩:=Q9.one;obtain⟨e1,_⟩:=B9.one;obtain⟨e2,e3,e4,e5,e6⟩:=A9.five;have zs:¬q=w.heap.size+1+1:=by omega
     exact⟨rfl,Or.inr ⟨_,_,rfl⟩,λ_=>⟨rfl,rfl,hi.out,hp.out,_,_,_,rfl,by omega,by omega,by omega,by simp[go_sem,e0],by simp[go_sem,e1],by simp[go_sem,e2],by simp[go_sem,e3],by simp[go_sem,e4],by simp[go_sem,e5],by simp[go_sem,e6]⟩⟩
    ·go_grown
  ·by_cases hin:0<=c /\ c<(nb:Int)
   rotate_left
   ·have HV:Hid (r=aF 1):=by
     show _=_;rw[HR2.out];rw[if_neg (by simp),if_neg (by simpa using hin)]
    clear HR2;obtain⟨⟨l0,l1,l2,l3,l4,l5⟩,⟨f0,f1,f2,f3,f4,f5⟩⟩:=L5.six;obtain⟨v0,v1,v2,v3,v4,v5,v6⟩:=V5.seven;by_cases h0:0<=c
    ·have u0:decide (c<0)=false:=by simp;omega
     have u1:decide ((nb:Int)<=c)=true:=by simp;omega
     go_wp2_with fail;refine bodyPost_ret (v:=.tuple #[lvA 0 zeroP .nilFunc,.int .i64 1]) (by simp[results,results149,go_sem,l0,l1,l2,l3,l4,l5,zeroP]) rfl ⟨0,zeroP,.nilFunc,1,rfl,?_,?_⟩
     ·rw[HV.out];exact⟨rfl,Or.inl rfl,λh=>by cases h⟩
     ·go_grown
    ·have u0:decide (c<0)=true:=by simp;omega
     go_wp2_with fail;refine bodyPost_ret (v:=.tuple #[lvA 0 zeroP .nilFunc,.int .i64 1]) (by simp[results,results149,go_sem,l0,l1,l2,l3,l4,l5,zeroP]) rfl ⟨0,zeroP,.nilFunc,1,rfl,?_,?_⟩
     ·rw[HV.out];exact⟨rfl,Or.inl rfl,λh=>by cases h⟩
     ·go_grown
   obtain⟨k,rfl⟩:∃k:Nat,c=(k:Int):=⟨c.toNat,by omega⟩;have hkl:k<nb:=by omega
   obtain⟨y,hy,hyd⟩:=HBV.out k hkl;have HV:Hid (r=⟨0,1,⟨s,y,sp,dp⟩,.back i ⟨s,dd,sp,dp⟩ y⟩):=by
    show _=_;rw[HR2.out,if_neg (by simp),if_pos (by simpa using hin),Int.toNat_natCast,hyd]
   have SB5:=HBK.out _ E5;obtain⟨bb,ob,eAb,_,hbc⟩:=Ints.at SB5 hy;have bc:=hbc k y hy;subst eAb;have k3:(0:Int)<=(k:Int):=by omega
   have k4:(k:Int)<(nb:Int):=by omega
   have u0:decide ((k:Int)<0)=false:=by simp
   have u1:decide ((nb:Int)<=(k:Int))=false:=by simp;omega
   obtain⟨v0,v1,v2,v3,v4,v5,v6⟩:=V5.seven;obtain⟨qc0,qf⟩:=Q5.one;clear HR2 HBV HBK E5 hy hyd SB5 hbc hin;go_upto_region 10 with fail;have Q6:=Q5.setS (j:=0) (.int .i64 y);have A6:=A5.setO (b:=q) (j:=0) (by omega) (.int .i64 y);have B6:=B5.setO (b:=q) (j:=0) (by omega) (.int .i64 y);have P6:=P5.setO (b:=q) (j:=0) (by omega) (.int .i64 y);have L6:=L5.setO (b:=q) (j:=0) (by omega) (.int .i64 y);have D6:=D5.setCell (p:=⟨q,0,none⟩) (by simp;omega) (.int .i64 y);simp only[List.setIfInBounds_toArray,List.set_cons_zero]at Q6;clear Q5 A5 B5 P5 L5 D5 V5 qc0 qf bc v0 v1 v2 v3 v4 v5 v6;generalize hW:World.setCell _ _ (.int .i64 y)=w6 at *;clear hW z1;obtain⟨qc,qf⟩:=Q6.one;obtain⟨p0,p1,p2,p3,pf0,pf1,pf2,pf3⟩:=P6.four;go_cut [] (λwx=>Bk wx q #[y] 3 /\ Bk wx (w.heap.size+1+1+1+1) #[(i:Int),s,dd,sp,dp] 175 /\ Bk wx w.heap.size #[.pointer (some ⟨m.B,m.z,none⟩)] 100 /\ Bk wx (w.heap.size+1) #[s,y,sp,dp] 37 /\ Bk wx (w.heap.size+1+1) #[.int .i64 0,.int .i64 0,.int .i64 0,.int .i64 0,.int .i64 0,.nilFunc] 214 /\ Below w w wx)
   case first =>
    go_wp2_with fail
    go_meet
    exact⟨Q6.setO (by omega) _,A6.setO (by omega) _,B6.setO (by omega) _,by have:=P6.setS (j:=1) (.int .i64 y);simpa using this,L6.setO (by omega) _,D6.setCell (by simp) _⟩
   case rest =>
    clear Q6 A6 B6 P6 L6 D6 qc qf p0 p1 p2 p3 pf0 pf1 pf2 pf3;obtain⟨Q9,A9,B9,P9,L9,D9⟩:=hcut;obtain⟨p0,p1,p2,p3,_⟩:=P9.four;obtain⟨⟨l0,l1,l2,l3,l4,l5⟩,⟨f0,f1,f2,f3,f4,f5⟩⟩:=L9.six;go_wp2_with fail;refine bodyPost_ret (v:=.tuple #[lvA 1 ⟨s,y,sp,dp⟩ (.func (.func 185) #[] #[.pointer (some ⟨q,0,none⟩),.pointer (some ⟨w,0,none⟩),.pointer (some ⟨w.heap.size+1+1+1+1,0,none⟩)]),.int .i64 0]) (by simp[results,results149,go_sem,l0,l1,l2,l3,l4,l5]) rfl ⟨_,_,_,0,rfl,?_,?_⟩
    ·rw[HV.out];obtain⟨e0,_⟩:=Q9.one;obtain⟨e1,_⟩:=B9.one;obtain⟨e2,e3,e4,e5,e6⟩:=A9.five;have zs:¬q=w.heap.size+1+1:=by omega
     exact⟨rfl,Or.inr ⟨_,_,rfl⟩,λ_=>⟨rfl,rfl,hi.out,hp.out,_,_,_,rfl,by omega,by omega,by omega,by simp[go_sem,e0],by simp[go_sem,e1],by simp[go_sem,e2],by simp[go_sem,e3],by simp[go_sem,e4],by simp[go_sem,e5],by simp[go_sem,e6]⟩⟩
    ·go_grown
end Go.Proofs.YtjmclcmgpaofiaaGreat
