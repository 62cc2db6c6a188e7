/-
  XAP.
-/
import Derived.Test.YtmcklkkkkigflaaGreatLy
import Derived.Test.YtmcklkkkkigflaaGreatXAO
import Derived.Test.YtmcklkkkkigflaaGreatXAM
set_option maxHeartbeats 8000000
set_option maxRecDepth 100000
namespace Go.Proofs.YtmcklkkkkigflaaGreat
open Go.RowKit Go.Maps
theorem SPostD.pre {E : Prop} {base a M most : Nat} {w V w' : World} {ns : List Nd} {φ : Env -> Bool} {e : Ending} (hA : Ar base a M 14 most w ns) (hb : Below w.heap.size w V) (h : SPostD E base a M most φ V ns e w') : SPostD E base a M most φ w ns e w' := by
 obtain ⟨ns', v, er, h1, h2, h3, h4, h5⟩ := h
 exact ⟨ns', v, er, h1, h2, (hA.kbelow hb).trans h3, h4, h5⟩
theorem SPostD.old {E : Prop} {base a M most : Nat} {w w' : World} {ns : List Nd} {φ : Env -> Bool} {e : Ending} (hA : Ar base a M 14 most w ns) (h : SPostD E base a M most φ w ns e w') {i : Nat} (hi : i < base) (hw : i < w.heap.size) : w'.heap[i]? = w.heap[i]? := by
 obtain ⟨ns', v, er, h1, h2, hk, h4, h5⟩ := h
 have q7 := hA.lowA
 have q8 := hA.lowM
 obtain ⟨_, _, q3, q4⟩ := hA.row
 refine hk.blk i hw (fun hm => ?_) ?_
 ·rcases hm with e | e | e | e | e | e
  ·have : i = a := e
   omega
  ·have : i = a := e
   omega
  ·have : i = M := e
   omega
  ·cases e
  ·cases e
  ·cases e
 ·show i ≠ rowOf w a
  omega
structure AtV (w : World) (nR nP nS R : Nat) (A B : Option Addr) (nd cap nl cap' : Nat) (s : ByteArray) : Prop where
 r : w.cell? ⟨nR, 0, none⟩ = some (.pointer (some ⟨R, 0, none⟩))
 p0 : w.cell? ⟨nP, 0, none⟩ = some (.slice A nd cap)
 p1 : w.cell? ⟨nP, 1, none⟩ = some (.slice B nl cap')
 s : w.cell? ⟨nS, 0, none⟩ = some (.string s)
 lr : nR < w.heap.size
 lp : nP < w.heap.size
 ls : nS < w.heap.size
theorem at_set1 {nR nP nS R bR MR K : Nat} {A B : Option Addr} {cap cap' nl : Nat} {s : ByteArray} {ds : List Dv} {ls : List Lk} {sl : Value} {xs : List Value} {nsR : List Nd} {sF : Nat -> Nat -> Nat -> Nat} {w : World} (hV : AtV w nR nP nS R A B ds.length cap nl cap' s) (hF : RcF ds ls bR R MR 40000 K sl xs nsR sF w) (hD : Devs w.heap.size w (.slice A ds.length cap) ds) :
  Hd (∀ base a M W ns, w.heap.size <= base -> Below w.heap.size w W -> Ar base a M 14 40000 W ns -> Calls Tryz.prog 15 #[.pointer (some ⟨a, 0, none⟩), .pointer (some ⟨nR, 0, none⟩), .pointer (some ⟨nP, 0, none⟩), .pointer (some ⟨nS, 0, none⟩)] W (SPostD True base a M 40000 (atF ds ls K (findFrom ds s.toList 0) 0) W ns)) := ⟨fun base a M W ns hbs hb hA => by
 have HO : Hd (∀ V, Below W.heap.size W V -> Calls Tryz.prog 17 #[.agg #[.slice A ds.length cap, .slice B nl cap'], .string s] V fun e w' => e = .returned (.agg #[.int .i64 (findFrom ds s.toList 0), .int .i64 0]) ∧ Below V.heap.size V w') := ⟨fun V h => home_any A B cap cap' nl ds s V ((hD.below (chain h hb)).mono (chain h hb).size)⟩
 have hle := hb.size
 have SE : Hd (∀ V, Below W.heap.size W V -> Calls Tryz.prog 16 #[.pointer (some ⟨R, 0, none⟩), .pointer (some ⟨a, 0, none⟩), .agg #[.int .i64 (findFrom ds s.toList 0), .int .i64 0]] V fun e w' => ∃ v er : Int, e = .returned (.tuple #[.int .i64 v, .int .i64 er]) ∧ Hd (SPostD True base a M 40000 (atF ds ls K (findFrom ds s.toList 0) 0) W ns e w') ∧ Hd (∀ i, i < w.heap.size -> w'.heap[i]? = V.heap[i]?)) := ⟨fun V h => by
  have hb2 := chain h hb
  have hF2 := hF.below hb2
  have hA2 := hA.below h
  have e1 : rowOf V R = rowOf w R := rowOf_same (hb2.block _ hF.rc.lt)
  obtain ⟨_, _, _, q4⟩ := hF.rc.ar.row
  have q5 := hF.rc.lt
  have q6 := hF.rc.ar.ltM
  refine (rset_any (p := findFrom ds s.toList 0) (q := 0) hF2.rc ⟨hF2.hist⟩ hF.lt hA2 (by omega) (by omega) (by omega) (fun g hg => by
   have := (own_block hF.rc.row hg).1
   omega)).mono fun e w' hp => ?_
  have e2 : ev nsR (atN (sF K) (findFrom ds s.toList 0) 0) = atF ds ls K (findFrom ds s.toList 0) 0 := hF.at (Nat.lt_succ_self _) _ _
  rw [e2] at hp
  obtain ⟨ns', v, er, he, _⟩ := id hp
  exact ⟨v, er, he, ⟨hp.pre hA h⟩, ⟨fun i hi => hp.old hA2 (by omega) (Nat.lt_of_lt_of_le hi hb2.size)⟩⟩⟩
 have c0 := (hb.cell (p := ⟨nR, 0, none⟩) hV.lr).trans hV.r
 have c1 := (hb.cell (p := ⟨nP, 0, none⟩) hV.lp).trans hV.p0
 have c2 := (hb.cell (p := ⟨nP, 1, none⟩) hV.lp).trans hV.p1
 have c3 := (hb.cell (p := ⟨nS, 0, none⟩) hV.ls).trans hV.s
 have l0 := Nat.lt_of_lt_of_le hV.lr hb.size
 have l1 := Nat.lt_of_lt_of_le hV.lp hb.size
 have l2 := Nat.lt_of_lt_of_le hV.ls hb.size
 have v0 := hV.lr
 have v1 := hV.lp
 have v2 := hV.ls
 have KC : Hd (∀ V V' : World, (∀ i, i < w.heap.size -> V'.heap[i]? = V.heap[i]?) -> (V.cell? ⟨nR, 0, none⟩ = some (.pointer (some ⟨R, 0, none⟩)) ∧ V.cell? ⟨nP, 0, none⟩ = some (.slice A ds.length cap) ∧ V.cell? ⟨nP, 1, none⟩ = some (.slice B nl cap') ∧ V.cell? ⟨nS, 0, none⟩ = some (.string s)) -> V'.cell? ⟨nR, 0, none⟩ = some (.pointer (some ⟨R, 0, none⟩)) ∧ V'.cell? ⟨nP, 0, none⟩ = some (.slice A ds.length cap) ∧ V'.cell? ⟨nP, 1, none⟩ = some (.slice B nl cap') ∧ V'.cell? ⟨nS, 0, none⟩ = some (.string s)) := ⟨fun V V' h ⟨a1, a2, a3, a4⟩ => ⟨(cellB (h _ v0)).trans a1, (cellB (h _ v1)).trans a2, (cellB (h _ v1)).trans a3, (cellB (h _ v2)).trans a4⟩⟩
 clear hF hD hV hb hA hbs v0 v1 v2
 generalize hQ : SPostD True base a M 40000 (atF ds ls K (findFrom ds s.toList 0) 0) W ns = Q at *
 generalize findFrom ds s.toList 0 = j at *
 clear hQ
 go_enter Tryz.func15, Tryz.ntmps15
 go_wp2_with fail
 refine wp_region_held_drew (S := fun V => V.cell? ⟨nR, 0, none⟩ = some (.pointer (some ⟨R, 0, none⟩)) ∧ V.cell? ⟨nP, 0, none⟩ = some (.slice A ds.length cap) ∧ V.cell? ⟨nP, 1, none⟩ = some (.slice B nl cap') ∧ V.cell? ⟨nS, 0, none⟩ = some (.string s)) (by kernel_rfl) ⟨c0, c1, c2, c3⟩ (fun hHeld => ?_)
 refine tk 0 ?_ (hy := by (intro w hSw; obtain ⟨s0, s1, s2, s3⟩ := hSw; go_simp; (try with_reducible rfl))); try simp only [ly]
 refine tk 1 ?_ (hy := by (intro w hSw; obtain ⟨s0, s1, s2, s3⟩ := hSw; go_simp; (try with_reducible rfl))); try simp only [ly]
 refine tk 2 ?_ (hy := by (intro w hSw; obtain ⟨s0, s1, s2, s3⟩ := hSw; go_simp; (try with_reducible rfl))); try simp only [ly]
 refine tk 3 ?_ (hy := by (intro w hSw; obtain ⟨s0, s1, s2, s3⟩ := hSw; go_simp; (try with_reducible rfl))); try simp only [ly]
 refine rd 4 (fun K hK => ?_)
 go_simp
 (with_reducible refine (HO.out _ (below_drew W)).mono ?_)
 rintro e w3 ⟨rfl, hb3⟩
 have S3 := KC.out _ w3 (fun i hi => hb3.block i (Nat.lt_of_lt_of_le hi hle)) hHeld
 have B3 : Below W.heap.size W w3 := chain hb3 (below_drew W)
 dsimp only
 clear hHeld hb3
 refine hK.out _ _ (S3) (fun hHeld => ?_)
 clear hK K S3
 try simp only [ly]
 refine rd 5 (fun K hK => ?_)
 go_simp
 (with_reducible refine (SE.out _ B3).mono ?_)
 rintro e w4 ⟨v, er, rfl, hQ4, hk4⟩
 have S4 := KC.out _ w4 hk4.out hHeld
 dsimp only
 clear hHeld hk4 B3
 refine hK.out _ _ (S4) (fun hHeld => ?_)
 clear hK K S4
 try simp only [ly]
 refine tk 6 ?_ (hy := by (intro w hSw; go_simp; (try with_reducible rfl))); try simp only [ly]
 refine tk 7 ?_ (hy := by (intro w hSw; go_simp; (try with_reducible rfl))); try simp only [ly]
 refine tk 8 ?_ (hy := by (intro w hSw; go_simp; (try with_reducible rfl))); try simp only [ly]
 refine tk 9 ?_ (hy := by (intro w hSw; go_simp; (try with_reducible rfl))); try simp only [ly]
 refine wpAnyH_done (by kernel_rfl) ?_ _
 clear hHeld SE HO KC
 go_wp2_with fail
 exact hQ4.out⟩
theorem at_set2 {nR nP nS R bR MR K : Nat} {A B : Option Addr} {cap cap' nl : Nat} {s : ByteArray} {ds : List Dv} {ls : List Lk} {sl : Value} {xs : List Value} {nsR : List Nd} {sF : Nat -> Nat -> Nat -> Nat} {w : World} (hV : AtV w nR nP nS R A B ds.length cap nl cap' s) (hF : RcF ds ls bR R MR 40000 K sl xs nsR sF w) (hD : Devs w.heap.size w (.slice A ds.length cap) ds) :
  Hd (∀ base a M W ns, w.heap.size <= base -> Below w.heap.size w W -> Ar base a M 14 40000 W ns -> Calls Tryz.prog 18 #[.pointer (some ⟨a, 0, none⟩), .pointer (some ⟨nR, 0, none⟩), .pointer (some ⟨nP, 0, none⟩), .pointer (some ⟨nS, 0, none⟩)] W (SPostD True base a M 40000 (atF ds ls K (findFrom ds s.toList 0) 0) W ns)) := ⟨fun base a M W ns hbs hb hA => by
 have HO : Hd (∀ V, Below W.heap.size W V -> Calls Tryz.prog 17 #[.agg #[.slice A ds.length cap, .slice B nl cap'], .string s] V fun e w' => e = .returned (.agg #[.int .i64 (findFrom ds s.toList 0), .int .i64 0]) ∧ Below V.heap.size V w') := ⟨fun V h => home_any A B cap cap' nl ds s V ((hD.below (chain h hb)).mono (chain h hb).size)⟩
 have hle := hb.size
 have SE : Hd (∀ V, Below W.heap.size W V -> Calls Tryz.prog 16 #[.pointer (some ⟨R, 0, none⟩), .pointer (some ⟨a, 0, none⟩), .agg #[.int .i64 (findFrom ds s.toList 0), .int .i64 0]] V fun e w' => ∃ v er : Int, e = .returned (.tuple #[.int .i64 v, .int .i64 er]) ∧ Hd (SPostD True base a M 40000 (atF ds ls K (findFrom ds s.toList 0) 0) W ns e w') ∧ Hd (∀ i, i < w.heap.size -> w'.heap[i]? = V.heap[i]?)) := ⟨fun V h => by
  have hb2 := chain h hb
  have hF2 := hF.below hb2
  have hA2 := hA.below h
  have e1 : rowOf V R = rowOf w R := rowOf_same (hb2.block _ hF.rc.lt)
  obtain ⟨_, _, _, q4⟩ := hF.rc.ar.row
  have q5 := hF.rc.lt
  have q6 := hF.rc.ar.ltM
  refine (rset_any (p := findFrom ds s.toList 0) (q := 0) hF2.rc ⟨hF2.hist⟩ hF.lt hA2 (by omega) (by omega) (by omega) (fun g hg => by
   have := (own_block hF.rc.row hg).1
   omega)).mono fun e w' hp => ?_
  have e2 : ev nsR (atN (sF K) (findFrom ds s.toList 0) 0) = atF ds ls K (findFrom ds s.toList 0) 0 := hF.at (Nat.lt_succ_self _) _ _
  rw [e2] at hp
  obtain ⟨ns', v, er, he, _⟩ := id hp
  exact ⟨v, er, he, ⟨hp.pre hA h⟩, ⟨fun i hi => hp.old hA2 (by omega) (Nat.lt_of_lt_of_le hi hb2.size)⟩⟩⟩
 have c0 := (hb.cell (p := ⟨nR, 0, none⟩) hV.lr).trans hV.r
 have c1 := (hb.cell (p := ⟨nP, 0, none⟩) hV.lp).trans hV.p0
 have c2 := (hb.cell (p := ⟨nP, 1, none⟩) hV.lp).trans hV.p1
 have c3 := (hb.cell (p := ⟨nS, 0, none⟩) hV.ls).trans hV.s
 have l0 := Nat.lt_of_lt_of_le hV.lr hb.size
 have l1 := Nat.lt_of_lt_of_le hV.lp hb.size
 have l2 := Nat.lt_of_lt_of_le hV.ls hb.size
 have v0 := hV.lr
 have v1 := hV.lp
 have v2 := hV.ls
 have KC : Hd (∀ V V' : World, (∀ i, i < w.heap.size -> V'.heap[i]? = V.heap[i]?) -> (V.cell? ⟨nR, 0, none⟩ = some (.pointer (some ⟨R, 0, none⟩)) ∧ V.cell? ⟨nP, 0, none⟩ = some (.slice A ds.length cap) ∧ V.cell? ⟨nP, 1, none⟩ = some (.slice B nl cap') ∧ V.cell? ⟨nS, 0, none⟩ = some (.string s)) -> V'.cell? ⟨nR, 0, none⟩ = some (.pointer (some ⟨R, 0, none⟩)) ∧ V'.cell? ⟨nP, 0, none⟩ = some (.slice A ds.length cap) ∧ V'.cell? ⟨nP, 1, none⟩ = some (.slice B nl cap') ∧ V'.cell? ⟨nS, 0, none⟩ = some (.string s)) := ⟨fun V V' h ⟨a1, a2, a3, a4⟩ => ⟨(cellB (h _ v0)).trans a1, (cellB (h _ v1)).trans a2, (cellB (h _ v1)).trans a3, (cellB (h _ v2)).trans a4⟩⟩
 clear hF hD hV hb hA hbs v0 v1 v2
 generalize hQ : SPostD True base a M 40000 (atF ds ls K (findFrom ds s.toList 0) 0) W ns = Q at *
 generalize findFrom ds s.toList 0 = j at *
 clear hQ
 go_enter Tryz.func18, Tryz.ntmps18
 go_wp2_with fail
 refine wp_region_held_drew (S := fun V => V.cell? ⟨nR, 0, none⟩ = some (.pointer (some ⟨R, 0, none⟩)) ∧ V.cell? ⟨nP, 0, none⟩ = some (.slice A ds.length cap) ∧ V.cell? ⟨nP, 1, none⟩ = some (.slice B nl cap') ∧ V.cell? ⟨nS, 0, none⟩ = some (.string s)) (by kernel_rfl) ⟨c0, c1, c2, c3⟩ (fun hHeld => ?_)
 refine tk 0 ?_ (hy := by (intro w hSw; obtain ⟨s0, s1, s2, s3⟩ := hSw; go_simp; (try with_reducible rfl))); try simp only [ly]
 refine tk 1 ?_ (hy := by (intro w hSw; obtain ⟨s0, s1, s2, s3⟩ := hSw; go_simp; (try with_reducible rfl))); try simp only [ly]
 refine tk 2 ?_ (hy := by (intro w hSw; obtain ⟨s0, s1, s2, s3⟩ := hSw; go_simp; (try with_reducible rfl))); try simp only [ly]
 refine tk 3 ?_ (hy := by (intro w hSw; obtain ⟨s0, s1, s2, s3⟩ := hSw; go_simp; (try with_reducible rfl))); try simp only [ly]
 refine rd 4 (fun K hK => ?_)
 go_simp
 (with_reducible refine (HO.out _ (below_drew W)).mono ?_)
 rintro e w3 ⟨rfl, hb3⟩
 have S3 := KC.out _ w3 (fun i hi => hb3.block i (Nat.lt_of_lt_of_le hi hle)) hHeld
 have B3 : Below W.heap.size W w3 := chain hb3 (below_drew W)
 dsimp only
 clear hHeld hb3
 refine hK.out _ _ (S3) (fun hHeld => ?_)
 clear hK K S3
 try simp only [ly]
 refine rd 5 (fun K hK => ?_)
 go_simp
 (with_reducible refine (SE.out _ B3).mono ?_)
 rintro e w4 ⟨v, er, rfl, hQ4, hk4⟩
 have S4 := KC.out _ w4 hk4.out hHeld
 dsimp only
 clear hHeld hk4 B3
 refine hK.out _ _ (S4) (fun hHeld => ?_)
 clear hK K S4
 try simp only [ly]
 refine tk 6 ?_ (hy := by (intro w hSw; go_simp; (try with_reducible rfl))); try simp only [ly]
 refine tk 7 ?_ (hy := by (intro w hSw; go_simp; (try with_reducible rfl))); try simp only [ly]
 refine tk 8 ?_ (hy := by (intro w hSw; go_simp; (try with_reducible rfl))); try simp only [ly]
 refine tk 9 ?_ (hy := by (intro w hSw; go_simp; (try with_reducible rfl))); try simp only [ly]
 refine wpAnyH_done (by kernel_rfl) ?_ _
 clear hHeld SE HO KC
 go_wp2_with fail
 exact hQ4.out⟩
theorem between_at {most r1 p1 r2 p2 nS : Nat} (w : World) (hm1 : 2 <= most) (hm2 : most <= 40000) (E : Prop) (φ ψ : Env -> Bool)
  (CA : Hd (∀ base a M W ns, w.heap.size <= base -> Below w.heap.size w W -> Ar base a M 14 most W ns -> Calls Tryz.prog 15 #[.pointer (some ⟨a, 0, none⟩), .pointer (some ⟨r1, 0, none⟩), .pointer (some ⟨p1, 0, none⟩), .pointer (some ⟨nS, 0, none⟩)] W (SPostD E base a M most φ W ns)))
  (CB : Hd (∀ base a M W ns, w.heap.size <= base -> Below w.heap.size w W -> Ar base a M 14 most W ns -> Calls Tryz.prog 18 #[.pointer (some ⟨a, 0, none⟩), .pointer (some ⟨r2, 0, none⟩), .pointer (some ⟨p2, 0, none⟩), .pointer (some ⟨nS, 0, none⟩)] W (SPostD E base a M most ψ W ns))) :
  Calls Tryz.prog 8 #[.int .i64 (most : Int), .func (.func 15) #[] #[.pointer (some ⟨r1, 0, none⟩), .pointer (some ⟨p1, 0, none⟩), .pointer (some ⟨nS, 0, none⟩)], .func (.func 18) #[] #[.pointer (some ⟨r2, 0, none⟩), .pointer (some ⟨p2, 0, none⟩), .pointer (some ⟨nS, 0, none⟩)]] w fun e w' => BtPost E φ ψ e ∧ Below w.heap.size w w' := by
 have NW : Hd (Calls Tryz.prog 19 #[.int .i64 14, .int .i64 (most : Int)] (w.alloc zc) fun e w' => ∃ a M, e = .returned (.tuple #[.pointer (some ⟨a, 0, none⟩), .int .i64 0]) ∧ Ar (w.alloc zc).heap.size a M 14 most w' [(14, 0, 0), (14, 1, 1)] ∧ Below (w.alloc zc).heap.size (w.alloc zc) w') := ⟨new_ok (v := 14) (m := most) _ (by omega) (by omega) hm1 hm2⟩
 have D1 := Below.alloc' (Below.refl w.heap.size w) zc
 go_enter Tryz.func8, Tryz.ntmps8
 go_wp2_with fail
 refine NW.out.mono ?_
 rintro e w2 ⟨a, M, rfl, A2, hb2⟩
 have Q2 : Loc (ca _ a M 14 most) w2 w.heap.size #[.int .i64 0, .int .i64 0, .int .i64 0, .int .i64 0] 28 := A2.locOld (by simp) ((hb2.block _ (by simp)).trans (Go.heap_alloc_new _ _))
 have D2 := chain hb2 D1
 have hbs : w.heap.size <= (w.alloc zc).heap.size := by simp
 clear hb2 D1 NW
 generalize (w.alloc zc).heap.size = base at *
 go_wp2_with fail
 refine (CA.out base a M w2 _ hbs D2 A2).mono ?_
 rintro e w3 ⟨ns3, v3, er3, rfl, A3, K3, X3, R3⟩
 have Q3 := Q2.kp K3
 have D3 := D2.trans ((A2.kp_below K3).mono hbs)
 clear Q2 D2 A2 K3 X3 CA
 rcases R3.out.symm with ⟨rfl, rfl, hE⟩ | ⟨rfl, f, rfl, lf, ef⟩
 ·obtain ⟨⟨q0, q1, q2, q3⟩, qf, ql⟩ := Q3.four'
  clear R3 Q3 A3
  go_wp2_with fail
  refine bodyPost_ret (v := .tuple #[zp, .int .i64 0, .int .i64 6]) (by simp [results, Tryz.results8, go_sem, q0, q1, q2, q3]) rfl ⟨Or.inl ⟨rfl, hE⟩, ?_⟩
  go_grown
 clear R3
 go_wp2_with fail
 refine (CB.out base a M w3 _ hbs D3 A3).mono ?_
 rintro e w4 ⟨ns4, v4, er4, rfl, A4, K4, X4, R4⟩
 have Q4 := Q3.kp K4
 have D4 := D3.trans ((A3.kp_below K4).mono hbs)
 have lf4 : f < ns4.length := Nat.lt_of_lt_of_le lf X4.len
 have ef4 : Hd (∀ x, ev ns4 f x = φ x) := ⟨fun x => (X4.ev A3.wf A4.wf f lf x).trans (ef x)⟩
 clear Q3 D3 A3 K4 X4 CB lf ef
 rcases R4.out.symm with ⟨rfl, rfl, hE⟩ | ⟨rfl, g, rfl, lg, eg⟩
 ·obtain ⟨⟨q0, q1, q2, q3⟩, qf, ql⟩ := Q4.four'
  clear R4 Q4 A4
  go_wp2_with fail
  refine bodyPost_ret (v := .tuple #[zp, .int .i64 0, .int .i64 6]) (by simp [results, Tryz.results8, go_sem, q0, q1, q2, q3]) rfl ⟨Or.inl ⟨rfl, hE⟩, ?_⟩
  go_grown
 have eg4 : Hd (∀ x, ev ns4 g x = ψ x) := ⟨eg⟩
 clear R4 eg
 go_wp2_with fail
 refine (differ_ok A4 lf4 lg).mono ?_
 rintro e w5 ⟨c, ok, rfl, T5, A5, K5⟩
 have Q5 := Q4.kp K5
 have D5 := D4.trans ((A4.kp_below K5).mono hbs)
 clear Q4 D4 A4 K5
 cases ok
 ·have fin : Hd (BtPost E φ ψ (.returned (.tuple #[zp, .int .i64 0, .int .i64 0]))) := ⟨Or.inr (Or.inl ⟨rfl, fun x => by
   rcases T5.out with ⟨rfl, _⟩ | ⟨_, h, _⟩
   ·rw [<- ef4.out, <- eg4.out]
   ·cases h⟩)⟩
  obtain ⟨⟨q0, q1, q2, q3⟩, qf, ql⟩ := Q5.four'
  clear T5 Q5 A5
  go_wp2_with fail
  refine bodyPost_ret (v := .tuple #[zp, .int .i64 0, .int .i64 0]) (by simp [results, Tryz.results8, go_sem, q0, q1, q2, q3]) rfl ⟨fin.out, ?_⟩
  go_grown
 have least : Hd (LeastD 16384 (fun c => φ (envOf 14 c)) (fun c => ψ (envOf 14 c)) c) := ⟨by
  rcases T5.out with ⟨_, _, h⟩ | ⟨_, _, h⟩
  ·cases h
  ·obtain ⟨h1, h2, h3⟩ := h
   refine ⟨h1, ?_, fun d hd => ?_⟩
   ·show φ _ ≠ ψ _
    rw [<- ef4.out, <- eg4.out]
    exact h2
   ·show φ _ = ψ _
    rw [<- ef4.out, <- eg4.out]
    exact h3 d hd⟩
 have hc : c < 16384 := least.out.1
 have EV : Hd (Calls Tryz.prog 22 #[.pointer (some ⟨a, 0, none⟩), .int .i64 (f : Int), .int .i64 (c : Int)] _ _) := ⟨eval_ok A5 lf4 (b := c) hc⟩
 clear EV
 clear T5
 have OF : Hd (∀ w, Calls Tryz.prog 21 #[.int .i64 (c : Int)] w fun e w' => e = .returned (.tuple #[pk ((c / 1024 : Nat) : Int) ((c / 64 % 16 : Nat) : Int) ((c / 8 % 8 : Nat) : Int) ((c % 8 : Nat) : Int), .int .i64 0]) ∧ Below w.heap.size w w') := ⟨fun w => of_any c w hc⟩
 have FIN : Hd (∀ k : Int, k = (if φ (envOf 14 c) then 1 else 2) -> BtPost E φ ψ (.returned (.tuple #[pk ((c / 1024 : Nat) : Int) ((c / 64 % 16 : Nat) : Int) ((c / 8 % 8 : Nat) : Int) ((c % 8 : Nat) : Int), .int .i64 k, .int .i64 0]))) := ⟨fun k hk => Or.inr (Or.inr ⟨c, by rw [hk], least.out⟩)⟩
 clear least
 generalize c / 1024 = p0 at *
 generalize c / 64 % 16 = p1 at *
 generalize c / 8 % 8 = p2 at *
 generalize c % 8 = p3 at *
 go_wp2_with fail
 refine (OF.out _).mono ?_
 rintro e w6 ⟨rfl, hb6⟩
 have D6 := chain hb6 D5
 have Q6 := Q5.below A5 hb6
 have A6 := A5.below hb6
 have A7 := A6.alloc (.cells #[.int .i64 (p0 : Int), .int .i64 (p1 : Int), .int .i64 (p2 : Int), .int .i64 (p3 : Int)] 28)
 have L7 := A6.loc #[.int .i64 (p0 : Int), .int .i64 (p1 : Int), .int .i64 (p2 : Int), .int .i64 (p3 : Int)] 28
 have Q7 := Q6.kp (Ar.kalloc' A6 (.cells #[.int .i64 (p0 : Int), .int .i64 (p1 : Int), .int .i64 (p2 : Int), .int .i64 (p3 : Int)] 28))
 have D7 := Below.alloc' D6 (.cells #[.int .i64 (p0 : Int), .int .i64 (p1 : Int), .int .i64 (p2 : Int), .int .i64 (p3 : Int)] 28)
 have EV : Hd (Calls Tryz.prog 22 #[.pointer (some ⟨a, 0, none⟩), .int .i64 (f : Int), .int .i64 (c : Int)] (w6.alloc (.cells #[.int .i64 (p0 : Int), .int .i64 (p1 : Int), .int .i64 (p2 : Int), .int .i64 (p3 : Int)] 28)) fun e w' => e = .returned (.tuple #[.bool (ev ns4 f (envOf 14 c)), .int .i64 0]) ∧ Ar base a M 14 most w' ns4 ∧ Kp (ca base a M 14 most) (w6.alloc (.cells #[.int .i64 (p0 : Int), .int .i64 (p1 : Int), .int .i64 (p2 : Int), .int .i64 (p3 : Int)] 28)) w') := ⟨eval_ok A7 lf4 (b := c) hc⟩
 have ev7 := ef4.out (envOf 14 c)
 rw [ev7] at EV
 clear hb6 D5 Q5 A5 Q6 A6 D6 ev7 OF
 go_wp2_with fail
 refine EV.out.mono ?_
 rintro e w8 ⟨rfl, A8, K8⟩
 have Q8 := Q7.kp K8
 have L8 := L7.kp K8
 have D8 := D7.trans ((A7.kp_below K8).mono hbs)
 obtain ⟨⟨q0, q1, q2, q3⟩, qf, ql⟩ := Q8.four'
 obtain ⟨⟨l0, l1, l2, l3⟩, lf', ll⟩ := L8.four'
 clear EV A7 A8 K8 Q7 L7 D7 Q8 L8
 cases hphi : φ (envOf 14 c)
 ·have fin := FIN.out 2 (by rw [hphi]; rfl)
  clear FIN
  go_wp2_with fail
  refine bodyPost_ret (v := .tuple #[pk (p0 : Int) (p1 : Int) (p2 : Int) (p3 : Int), .int .i64 2, .int .i64 0]) (by simp [results, Tryz.results8, go_sem, q0, q1, q2, q3]) rfl ⟨fin, ?_⟩
  go_grown
 ·have fin := FIN.out 1 (by rw [hphi]; rfl)
  clear FIN
  go_wp2_with fail
  refine bodyPost_ret (v := .tuple #[pk (p0 : Int) (p1 : Int) (p2 : Int) (p3 : Int), .int .i64 1, .int .i64 0]) (by simp [results, Tryz.results8, go_sem, q0, q1, q2, q3]) rfl ⟨fin, ?_⟩
  go_grown
theorem Hid.of {p : Prop} (h : p) : Hid p := h
theorem partOf_any (A B : Option Addr) (cap cap' : Nat) (ds : List Dv) (ls : List Lk) (s : ByteArray) (w : World) (hD : Hid (Devs w.heap.size w (.slice A ds.length cap) ds)) (hL : Hid (Links w.heap.size w (.slice B ls.length cap') ls)) :
  Calls Tryz.prog 25 #[.agg #[.slice A ds.length cap, .slice B ls.length cap'], .string s] w (PartOut w ds ls s.toList) := by
 have D0 : Below w.heap.size w (((w.alloc (.cells #[.slice A ds.length cap, .slice B ls.length cap'] 25)).alloc (.cells #[.string s] 9)).alloc (.cells #[nilS, nilS, nilS, .int .i64 0, .int .i64 0] 68)) := Below.alloc' (Below.alloc' (Below.alloc' (Below.refl _ _) _) _) _
 have N0 := ((bk_new w #[.slice A ds.length cap, .slice B ls.length cap'] 25).alloc (.cells #[.string s] 9)).alloc (.cells #[nilS, nilS, nilS, .int .i64 0, .int .i64 0] 68)
 have S0 := (bk_new' (w.alloc (.cells #[.slice A ds.length cap, .slice B ls.length cap'] 25)) #[.string s] 9 (w.heap.size + 1) (by simp)).alloc (.cells #[nilS, nilS, nilS, .int .i64 0, .int .i64 0] 68)
 have P0 := bk_new' ((w.alloc (.cells #[.slice A ds.length cap, .slice B ls.length cap'] 25)).alloc (.cells #[.string s] 9)) #[nilS, nilS, nilS, .int .i64 0, .int .i64 0] 68 (w.heap.size + 1 + 1) (by simp)
 have CK : Hid (∀ W, Below w.heap.size w W -> Calls Tryz.prog 26 #[.agg #[.slice A ds.length cap, .slice B ls.length cap']] W fun e w' => e = .returned (.int .i64 (netV ds ls)) ∧ Below W.heap.size W w') := fun W h => net_any _ _ ds ls W ((hD.out.below h).mono h.size) ((hL.out.below h).mono h.size)
 have IX : Hid (∀ W, Below w.heap.size w W -> Bk W (w.heap.size + 1) #[.string s] 9 -> Calls Tryz.prog 31 #[.slice A ds.length cap, .func (.func 42) #[] #[.pointer (some ⟨w.heap.size + 1, 0, none⟩)]] W fun e w' => e = .returned (.int .i64 (hostFrom ds s.toList 0)) ∧ Below W.heap.size W w') := fun W h hb => hostIdx_any A ds.length cap ds s (w.heap.size + 1) W ((hD.out.below h).mono h.size) hb.lt hb.one.1
 have AR : Hid (∀ (k : Nat) W, k < ds.length -> netV ds ls = 0 -> Below w.heap.size w W -> Calls Tryz.prog 43 #[.agg #[.slice A ds.length cap, .slice B ls.length cap'], .int .i64 (k : Int)] W fun e w' => ∃ g c, e = .returned (.slice (some ⟨g, 0, none⟩) (wholeF ds ls k).length c) ∧ Hid (w'.ownsRow W.heap.size 3 1 (.slice (some ⟨g, 0, none⟩) (wholeF ds ls k).length c) (wholeF ds ls k).length (intsS (wholeF ds ls k))) ∧ Below W.heap.size W w') := fun k W hk hz h => around_any A B cap cap' ds ls k W hz hk ((hD.out.below h).mono h.size) ((hL.out.below h).mono h.size)
 have ON : Hid (∀ (k g c B0 : Nat) W, k < ds.length -> netV ds ls = 0 -> Below w.heap.size w W -> W.ownsRow B0 3 1 (.slice (some ⟨g, 0, none⟩) (wholeF ds ls k).length c) (wholeF ds ls k).length (intsS (wholeF ds ls k)) -> Calls Tryz.prog 45 #[.agg #[.slice A ds.length cap, .slice B ls.length cap'], .slice (some ⟨g, 0, none⟩) (wholeF ds ls k).length c] W (CopyDeep W (devsF ds (wholeF ds ls k)) (linksF ls (wholeF ds ls k)))) := fun k g c B0 W hk hz h hr => only_any A B cap cap' ds ls g c B0 _ W hz (FOk.whole hz hk) (sort_rises _) (wholeF_pos _ _ _) ((hD.out.below h).mono h.size) ((hL.out.below h).mono h.size) hr (small_part hz (FOk.whole hz hk))
 clear hD hL
 go_enter Tryz.func25, Tryz.ntmps25
 go_wp2_with fail
 refine (CK.out _ D0).mono ?_
 rintro e w1 ⟨rfl, hb1⟩
 have D1 := chain hb1 D0
 have N1 := Bk.keep hb1 N0
 have S1 := Bk.keep hb1 S0
 have P1 := Bk.keep hb1 P0
 clear hb1 D0 N0 S0 P0 CK
 obtain ⟨n0, n1⟩ := N1.two
 have hlt1 := P1.lt
 have p0 := P1.at 0
 have p1 := P1.at 1
 have p2 := P1.at 2
 have p3 := P1.at 3
 have p4 := P1.at 4
 have f0 := P1.fz 0
 have f1 := P1.fz 1
 have f2 := P1.fz 2
 have f3 := P1.fz 3
 have f4 := P1.fz 4
 by_cases hz : netV ds ls = 0
 ·rw [hz]
  go_wp2_with fail
  refine (IX.out _ D1 S1).mono ?_
  rintro e w2 ⟨rfl, hb2⟩
  have D2 := chain hb2 D1
  have N2 := Bk.keep hb2 N1
  have P2 := Bk.keep hb2 P1
  clear hb2 D1 N1 S1 P1 IX n0 n1 p0 p1 p2 p3 p4 f0 f1 f2 f3 f4 hlt1
  obtain ⟨n0, n1⟩ := N2.two
  have hlt1 := P2.lt
  rcases hostFrom_lt ds s.toList ds.length 0 (by omega) with hneg | ⟨k, hk, hkl⟩
  ·have p0 := P2.at 0
   have p1 := P2.at 1
   have p2 := P2.at 2
   have p3 := P2.at 3
   have p4 := P2.at 4
   have f0 := P2.fz 0
   have f1 := P2.fz 1
   have f2 := P2.fz 2
   have f3 := P2.fz 3
   have f4 := P2.fz 4
   have Q := Hid.of (P2.set5 (a := nilS) (b := nilS) (c := nilS) (d := .int .i64 0) (e := .int .i64 0))
   have D3 := Hid.of (set5_below (k := w.heap.size + 1 + 1) (a := nilS) (b := nilS) (c := nilS) (d := .int .i64 0) (e := .int .i64 0) D2 (by omega))
   clear AR ON
   go_wp2_with fail
   have s0 := Q.out.at 0
   have s1 := Q.out.at 1
   have s2 := Q.out.at 2
   have s3 := Q.out.at 3
   have s4 := Q.out.at 4
   refine bodyPost_ret (v := .tuple #[prtV nilS nilS nilS 0 0, .int .i64 4]) (by simp [results, Tryz.results25, go_sem, s0, s1, s2, s3, s4]) rfl ⟨D3.out, Or.inr (Or.inl ⟨hz, hneg, rfl⟩)⟩
  ·rw [hk]
   have hWl := wholeF_pos ds ls (k : Int)
   go_wp2_with fail
   refine (AR.out k _ hkl hz D2).mono ?_
   rintro e w3 ⟨g, c, rfl, R3, hb3⟩
   have D3 := chain hb3 D2
   have N3 := Bk.keep hb3 N2
   have P3 := Bk.keep hb3 P2
   have IX3 : Hid (Calls Tryz.prog 44 #[.slice (some ⟨g, 0, none⟩) (wholeF ds ls k).length c, .int .i64 (k : Int)] w3 fun e w' => ∃ j : Int, e = .returned (.int .i64 j) ∧ w' = w3) := indexS _ _ _ _ _ _ w3 (own_ints R3.out)
   clear AR hb3 D2 N2 P2 n0 n1 hlt1
   go_wp2_with fail
   refine IX3.out.mono ?_
   rintro e w4 ⟨j, rfl, rfl⟩
   go_wp2_with fail
   have hbA : Below w4.heap.size w4 (w4.alloc (.cells #[.int .i64 j, .int .i64 0] 54)) := Below.alloc' (Below.refl _ _) _
   have D4 := chain hbA D3
   have N4 := Bk.keep hbA N3
   have P4 := Bk.keep hbA P3
   have T4 := bk_new w4 #[.int .i64 j, .int .i64 0] 54
   have R4 := own_belowS R3.out hbA
   clear hbA IX3 D3 N3 P3 R3
   generalize hW5 : w4.alloc (.cells #[.int .i64 j, .int .i64 0] 54) = w5 at *
   generalize w4.heap.size = T at *
   generalize hdd : devsF ds (wholeF ds ls (k : Int)) = dd at *
   generalize hll : linksF ls (wholeF ds ls (k : Int)) = ll at *
   have ON2 : Hid (∀ W, W.heap = w5.heap -> W.os = w5.os -> W.tape = w5.tape -> W.output = w5.output -> Calls Tryz.prog 45 #[.agg #[.slice A ds.length cap, .slice B ls.length cap'], .slice (some ⟨g, 0, none⟩) (wholeF ds ls k).length c] W fun e w' => ∃ A1 c1 B1 c1', e = .returned (.agg #[.slice A1 dd.length c1, .slice B1 ll.length c1']) ∧ Hid (Below w.heap.size w w' ∧ CpAt w5.heap.size w' A1 c1 B1 c1' dd ll) ∧ Bk w' (w.heap.size + 1 + 1) #[nilS, nilS, nilS, .int .i64 0, .int .i64 0] 68 ∧ Bk w' T #[.int .i64 j, .int .i64 0] 54) := fun W h1 h2 h3 h4 => by
    have hb : Below w5.heap.size w5 W := ⟨h2, h3, h4, by rw [h1]; exact Nat.le_refl _, fun i _ => by rw [h1]⟩
    have hs : W.heap.size = w5.heap.size := by rw [h1]
    have D5 := chain hb D4
    refine (ON.out k g c _ W hkl hz D5 (own_belowS R4 hb)).mono fun e w' h => ?_
    rw [hdd, hll] at h
    obtain ⟨A1, c1, B1, c1', he, q1, q2, q3, q4, q5⟩ := h
    rw [hs] at q4 q5
    have hb' : Below w5.heap.size w5 w' := chain q3 hb
    exact ⟨A1, c1, B1, c1', he, ⟨chain hb' D4, ⟨q1, q2, q4, q5⟩⟩, Bk.keep hb' P4, Bk.keep hb' T4⟩
   obtain ⟨n0, n1⟩ := N4.two
   obtain ⟨t0, t1⟩ := T4.two
   have hlt5 := P4.lt
   have hltT := T4.lt
   clear ON D4 R4 hW5
   go_region_with (go_at_call 45; refine (ON2.out w5.drew rfl rfl rfl rfl).mono ?_; rintro e w6 ⟨A1, c1, B1, c1', rfl, hO, P6, T6⟩; obtain ⟨u0, u1⟩ := T6.two; have hlt6 := T6.lt; have hlp6 := P6.lt; have p0 := P6.at 0; have p1 := P6.at 1; have p2 := P6.at 2; have p3 := P6.at 3; have p4 := P6.at 4; have f0 := P6.fz 0; have f1 := P6.fz 1; have f2 := P6.fz 2; have f3 := P6.fz 3; have f4 := P6.fz 4)
   all_goals
    go_wp2_with fail
    have Q := P6.set5 (a := .slice A1 dd.length c1) (b := .slice B1 ll.length c1') (c := .slice (some ⟨g, 0, none⟩) (wholeF ds ls k).length c) (d := .int .i64 j) (e := .int .i64 0)
    have s0 := Q.at 0
    have s1 := Q.at 1
    have s2 := Q.at 2
    have s3 := Q.at 3
    have s4 := Q.at 4
    refine bodyPost_ret (v := .tuple #[prtV (.slice A1 dd.length c1) (.slice B1 ll.length c1') (.slice (some ⟨g, 0, none⟩) (wholeF ds ls k).length c) j 0, .int .i64 0]) (by simp [results, Tryz.results25, go_sem, s0, s1, s2, s3, s4]) rfl ⟨set5_below hO.out.1 (by omega), Or.inr (Or.inr ⟨hz, k, hk, A1, c1, B1, c1', g, c, j, ?_, ?_⟩)⟩
    ·rw [hdd, hll]
    ·rw [hdd, hll]
     exact (((((hO.out.2.low hlt5).low hlt5).low hlt5).low hlt5).low hlt5).down (by omega)
 ·have Q := Hid.of (P1.set5 (a := nilS) (b := nilS) (c := nilS) (d := .int .i64 0) (e := .int .i64 0))
  have D3 := Hid.of (set5_below (k := w.heap.size + 1 + 1) (a := nilS) (b := nilS) (c := nilS) (d := .int .i64 0) (e := .int .i64 0) D1 (by omega))
  clear IX AR ON
  go_wp2_with fail
  have s0 := Q.out.at 0
  have s1 := Q.out.at 1
  have s2 := Q.out.at 2
  have s3 := Q.out.at 3
  have s4 := Q.out.at 4
  refine bodyPost_ret (v := .tuple #[prtV nilS nilS nilS 0 0, .int .i64 (netV ds ls)]) (by simp [results, Tryz.results25, go_sem, s0, s1, s2, s3, s4]) rfl ⟨D3.out, Or.inl ⟨hz, rfl⟩⟩
def sliceE (ds : List Dv) (ls : List Lk) (s : List UInt8) : Int := if netV ds ls = 0 then (if hostFrom ds s 0 < 0 then 4 else 0) else netV ds ls
def sliceD (ds : List Dv) (ls : List Lk) (s : List UInt8) : List Dv := devsF ds (wholeF ds ls (hostFrom ds s 0))
def sliceL (ds : List Dv) (ls : List Lk) (s : List UInt8) : List Lk := linksF ls (wholeF ds ls (hostFrom ds s 0))
def SliceOut (w : World) (ds : List Dv) (ls : List Lk) (s : List UInt8) (e : Ending) (w' : World) : Prop :=
 Below w.heap.size w w' ∧ ((sliceE ds ls s ≠ 0 ∧ e = .returned (.tuple #[.agg #[nilS, nilS], .int .i64 (sliceE ds ls s)])) ∨
  (sliceE ds ls s = 0 ∧ ∃ A c B c', e = .returned (.tuple #[.agg #[.slice A (sliceD ds ls s).length c, .slice B (sliceL ds ls s).length c'], .int .i64 0]) ∧ CpAt w.heap.size w' A c B c' (sliceD ds ls s) (sliceL ds ls s)))
abbrev set2 (W : World) (k : Nat) (a b : Value) : World := (W.setCell ⟨k, 0, none⟩ a).setCell ⟨k, 1, none⟩ b
theorem Bk.set2 {W : World} {k : Nat} {t : TypeId} {x0 x1 a b : Value} (h : Bk W k #[x0, x1] t) : Bk (set2 W k a b) k #[a, b] t := by
 have := (h.setS (j := 0) a).setS (j := 1) b
 simpa using this
theorem slice_any (A B : Option Addr) (cap cap' : Nat) (ds : List Dv) (ls : List Lk) (s : ByteArray) (w : World) (hD : Hid (Devs w.heap.size w (.slice A ds.length cap) ds)) (hL : Hid (Links w.heap.size w (.slice B ls.length cap') ls)) :
  Calls Tryz.prog 13 #[.agg #[.slice A ds.length cap, .slice B ls.length cap'], .string s] w (SliceOut w ds ls s.toList) := by
 have D0 : Below w.heap.size w ((w.alloc (.cells #[.slice A ds.length cap, .slice B ls.length cap'] 25)).alloc (.cells #[nilS, nilS] 25)) := Below.alloc' (Below.alloc' (Below.refl _ _) _) _
 have R0 := bk_new' (w.alloc (.cells #[.slice A ds.length cap, .slice B ls.length cap'] 25)) #[nilS, nilS] 25 (w.heap.size + 1) (by simp)
 have PO : Hid (∀ W, Below w.heap.size w W -> w.heap.size + 1 < W.heap.size -> Bk W (w.heap.size + 1) #[nilS, nilS] 25 -> Calls Tryz.prog 25 #[.agg #[.slice A ds.length cap, .slice B ls.length cap'], .string s] W fun e w' => ∃ A1 n1 c1 B1 n2 c2 C1 n3 c3 h q er, e = .returned (.tuple #[prtV (.slice A1 n1 c1) (.slice B1 n2 c2) (.slice C1 n3 c3) h q, .int .i64 er]) ∧ Hid (SliceOut w ds ls s.toList (.returned (.tuple #[.agg #[.slice A1 n1 c1, .slice B1 n2 c2], .int .i64 er])) ((set2 w' (w.heap.size + 1) (.slice A1 n1 c1) (.slice B1 n2 c2)).alloc (.cells #[.slice A1 n1 c1, .slice B1 n2 c2, .slice C1 n3 c3, .int .i64 h, .int .i64 q] 68))) ∧ Bk w' (w.heap.size + 1) #[nilS, nilS] 25) := fun W h hlt hR =>
  (partOf_any A B cap cap' ds ls s W ((hD.out.below h).mono h.size) ((hL.out.below h).mono h.size)).mono fun e w' ⟨hb, hc⟩ => by
    have hR' := Bk.keep hb hR
    have bb : ∀ (x y z : Value) (h q : Int), Below w.heap.size w ((set2 w' (w.heap.size + 1) x y).alloc (.cells #[x, y, z, .int .i64 h, .int .i64 q] 68)) := fun x y z h' q => Below.alloc' (below_setS (below_setS (chain hb h) (by omega)) (by omega)) _
    rcases hc with ⟨hz, rfl⟩ | ⟨hz, hn, rfl⟩ | ⟨hz, k, hk, A1, c1, B1, c1', g, q, h1, rfl, hC⟩
    ·exact ⟨_, _, _, _, _, _, _, _, _, _, _, _, rfl, ⟨bb _ _ _ _ _, Or.inl ⟨by simp [sliceE, hz], by simp [sliceE, hz]⟩⟩, hR'⟩
    ·exact ⟨_, _, _, _, _, _, _, _, _, _, _, _, rfl, ⟨bb _ _ _ _ _, Or.inl ⟨by simp [sliceE, hz, hn], by simp [sliceE, hz, hn]⟩⟩, hR'⟩
    ·have hnn : ¬ hostFrom ds s.toList 0 < 0 := by omega
     refine ⟨_, _, _, _, _, _, _, _, _, _, _, _, rfl, ⟨bb _ _ _ _ _, Or.inr ⟨by simp [sliceE, hz, hnn], A1, c1, B1, c1', by simp only [sliceD, sliceL, hk], ?_⟩⟩, hR'⟩
     simp only [sliceD, sliceL, hk]
     exact (((hC.low hlt).low hlt).below (Below.alloc' (Below.refl _ _) _)).down h.size
 clear hD hL
 go_enter Tryz.func13, Tryz.ntmps13
 go_wp2_with fail
 refine (PO.out _ D0 (by simp) R0).mono ?_
 rintro e w1 ⟨A1, n1, c1, B1, n2, c2, C1, n3, c3, h, q, er, rfl, hO, R1⟩
 clear D0 R0 PO
 have hlt := R1.lt
 obtain ⟨r0, r1⟩ := R1.two
 have f0 := R1.fz 0
 have f1 := R1.fz 1
 go_wp2_with fail
 have Q := (R1.set2 (a := .slice A1 n1 c1) (b := .slice B1 n2 c2)).alloc (.cells #[.slice A1 n1 c1, .slice B1 n2 c2, .slice C1 n3 c3, .int .i64 h, .int .i64 q] 68)
 obtain ⟨s0, s1⟩ := Q.two
 refine bodyPost_ret (v := .tuple #[.agg #[.slice A1 n1 c1, .slice B1 n2 c2], .int .i64 er]) (by simp [results, Tryz.results13, go_sem, s0, s1]) rfl ?_
 exact hO.out
theorem rules_set1 {most n0 : Nat} (A : Option Addr) (n cap : Nat) (xs : List Rl) (w : World) (hn : n0 < w.heap.size) (q0 : w.cell? ⟨n0, 0, none⟩ = some (.slice A n cap)) (E : Prop) (HB : Hd (∀ base a M W ns, Below w.heap.size w W -> Ar base a M 14 most W ns -> Calls Tryz.prog 10 #[.pointer (some ⟨a, 0, none⟩), .slice A n cap] W (SPostD E base a M most (letsF xs) W ns))) :
  Hd (∀ base a M W ns, w.heap.size <= base -> Below w.heap.size w W -> Ar base a M 14 most W ns -> Calls Tryz.prog 9 #[.pointer (some ⟨a, 0, none⟩), .pointer (some ⟨n0, 0, none⟩)] W (SPostD E base a M most (letsF xs) W ns)) := ⟨fun base a M W ns _ hb hA => by
 have q1 : W.cell? ⟨n0, 0, none⟩ = some (.slice A n cap) := (hb.cell hn).trans q0
 have hlt : n0 < W.heap.size := Nat.lt_of_lt_of_le hn hb.size
 have BU := Hd.mk (HB.out base a M W ns hb hA)
 clear HB q0 hn hb hA
 go_enter Tryz.func9, Tryz.ntmps9
 go_wp2_with fail
 refine BU.out.mono ?_
 rintro e w2 hp
 obtain ⟨ns', v, er, rfl, r1, r2, r3, r4⟩ := hp
 clear BU
 have fin : Hd (SPostD E base a M most (letsF xs) W ns (.returned (.tuple #[.int .i64 v, .int .i64 er])) w2) := ⟨⟨ns', v, er, rfl, r1, r2, r3, r4⟩⟩
 clear r1 r2 r3 r4
 go_wp2_with fail
 go_ret2
 exact fin.out⟩
theorem rules_set2 {most n0 : Nat} (A : Option Addr) (n cap : Nat) (xs : List Rl) (w : World) (hn : n0 < w.heap.size) (q0 : w.cell? ⟨n0, 0, none⟩ = some (.slice A n cap)) (E : Prop) (HB : Hd (∀ base a M W ns, Below w.heap.size w W -> Ar base a M 14 most W ns -> Calls Tryz.prog 10 #[.pointer (some ⟨a, 0, none⟩), .slice A n cap] W (SPostD E base a M most (letsF xs) W ns))) :
  Hd (∀ base a M W ns, w.heap.size <= base -> Below w.heap.size w W -> Ar base a M 14 most W ns -> Calls Tryz.prog 11 #[.pointer (some ⟨a, 0, none⟩), .pointer (some ⟨n0, 0, none⟩)] W (SPostD E base a M most (letsF xs) W ns)) := ⟨fun base a M W ns _ hb hA => by
 have q1 : W.cell? ⟨n0, 0, none⟩ = some (.slice A n cap) := (hb.cell hn).trans q0
 have hlt : n0 < W.heap.size := Nat.lt_of_lt_of_le hn hb.size
 have BU := Hd.mk (HB.out base a M W ns hb hA)
 clear HB q0 hn hb hA
 go_enter Tryz.func11, Tryz.ntmps11
 go_wp2_with fail
 refine BU.out.mono ?_
 rintro e w2 hp
 obtain ⟨ns', v, er, rfl, r1, r2, r3, r4⟩ := hp
 clear BU
 have fin : Hd (SPostD E base a M most (letsF xs) W ns (.returned (.tuple #[.int .i64 v, .int .i64 er])) w2) := ⟨⟨ns', v, er, rfl, r1, r2, r3, r4⟩⟩
 clear r1 r2 r3 r4
 go_wp2_with fail
 go_ret2
 exact fin.out⟩
theorem new_badD (m : Int) (w : World) (hm : m < 2 ∨ 40000 < m) :
  Calls Tryz.prog 19 #[.int .i64 14, .int .i64 m] w fun e w' => e = .returned (.tuple #[.pointer none, .int .i64 1]) ∧ w' = w := by
 rcases hm with hm | hm
 ·have t1 : decide (m < 2) = true := by simp; omega
  go_enter Tryz.func19, Tryz.ntmps19
  go_wp2_with fail
  go_ret2
  exact ⟨rfl, rfl⟩
 ·have t1 : decide (m < 2) = false := by simp; omega
  have t2 : decide (40000 < m) = true := by simp; omega
  go_enter Tryz.func19, Tryz.ntmps19
  go_wp2_with fail
  go_ret2
  exact ⟨rfl, rfl⟩
theorem between_bad (m : Int) (f g : Value) (w : World) (hm : m < 2 ∨ 40000 < m) :
  Calls Tryz.prog 8 #[.int .i64 m, f, g] w fun e w' => e = .returned (.tuple #[zp, .int .i64 0, .int .i64 1]) ∧ Below w.heap.size w w' := by
 have NW : Hd (∀ w, Calls Tryz.prog 19 #[.int .i64 14, .int .i64 m] w fun e w' => e = .returned (.tuple #[.pointer none, .int .i64 1]) ∧ w' = w) := ⟨fun w => new_badD m w hm⟩
 clear hm
 have D1 := Below.alloc' (Below.refl w.heap.size w) zc
 go_enter Tryz.func8, Tryz.ntmps8
 go_wp2_with fail
 refine (NW.out _).mono ?_
 rintro e w2 ⟨rfl, rfl⟩
 go_wp2_with fail
 refine bodyPost_ret (v := .tuple #[zp, .int .i64 0, .int .i64 1]) (by simp [results, Tryz.results8, go_sem]) rfl ⟨rfl, ?_⟩
 go_grown
theorem box_four {w : World} {i : Nat} {x y z u : Value} {t : TypeId} (hb : w.heap[i]? = some (.cells #[x, y, z, u] t)) : (w.cell? ⟨i, 0, none⟩ = some x ∧ w.cell? ⟨i, 1, none⟩ = some y ∧ w.cell? ⟨i, 2, none⟩ = some z ∧ w.cell? ⟨i, 3, none⟩ = some u) ∧ (∀ j, w.frozen? ⟨i, j, none⟩ = false) ∧ i < w.heap.size := by
 refine ⟨⟨?_, ?_, ?_, ?_⟩, fun j => by simp [World.frozen?, hb], (Array.getElem?_eq_some_iff.1 hb).1⟩
 ·rw [cell_of_row w i 0 _ _ _ hb]; rfl
 ·rw [cell_of_row w i 1 _ _ _ hb]; rfl
 ·rw [cell_of_row w i 2 _ _ _ hb]; rfl
 ·rw [cell_of_row w i 3 _ _ _ hb]; rfl
def RuPost (E : Prop) (n m : Nat) (most : Int) (φ ψ : Env -> Bool) (e : Ending) : Prop :=
 if 8 < n ∨ 8 < m then e = .returned (.tuple #[zp, .int .i64 0, .int .i64 2])
 else if most < 2 ∨ 40000 < most then e = .returned (.tuple #[zp, .int .i64 0, .int .i64 1])
 else BtPost E φ ψ e
theorem BtPost.parts {E : Prop} {φ ψ : Env -> Bool} {e : Ending} (h : BtPost E φ ψ e) : ∃ x0 x1 x2 x3 k er : Int, e = .returned (.tuple #[pk x0 x1 x2 x3, .int .i64 k, .int .i64 er]) := by
 rcases h with ⟨rfl, _⟩ | ⟨rfl, _⟩ | ⟨c, rfl, _⟩
 ·exact ⟨0, 0, 0, 0, 0, 6, rfl⟩
 ·exact ⟨0, 0, 0, 0, 0, 0, rfl⟩
 ·exact ⟨_, _, _, _, _, _, rfl⟩
abbrev slC (A : Option Addr) (n cap : Nat) : Obj := .cells #[.slice A n cap] 26
theorem rules_any (A B : Option Addr) (n cap m cap2 : Nat) (xs ys : List Rl) (most : Int) (w : World) (hR : Rules w.heap.size w (.slice A n cap) xs) (hS : Rules w.heap.size w (.slice B m cap2) ys) (E : Prop) (HX : Hd (∀ mo : Nat, most = (mo : Int) -> 2 <= mo -> mo <= 40000 -> xs.length <= 8 -> ∀ base a M W ns, Below w.heap.size w W -> Ar base a M 14 mo W ns -> Calls Tryz.prog 10 #[.pointer (some ⟨a, 0, none⟩), .slice A n cap] W (SPostD E base a M mo (letsF xs) W ns))) (HY : Hd (∀ mo : Nat, most = (mo : Int) -> 2 <= mo -> mo <= 40000 -> ys.length <= 8 -> ∀ base a M W ns, Below w.heap.size w W -> Ar base a M 14 mo W ns -> Calls Tryz.prog 10 #[.pointer (some ⟨a, 0, none⟩), .slice B m cap2] W (SPostD E base a M mo (letsF ys) W ns))) :
  Calls Tryz.prog 4 #[.slice A n cap, .slice B m cap2, .int .i64 most] w fun e w' => RuPost E n m most (letsF xs) (letsF ys) e ∧ Below w.heap.size w w' := by
 have hn : n = xs.length := by
  obtain ⟨_, _, e, _⟩ := hR
  cases e
  rfl
 have hm : m = ys.length := by
  obtain ⟨_, _, e, _⟩ := hS
  cases e
  rfl
 have W1 := Below.alloc' (Below.refl w.heap.size w) (slC A n cap)
 have W2 := Below.alloc' W1 (slC B m cap2)
 have W3 := Below.alloc' W2 zc
 by_cases h1 : 8 < n
 ·have C1 : Hd (∀ w, Calls Tryz.prog 7 #[.slice A n cap] w fun e w' => e = .returned (.int .i64 2) ∧ w' = w) := ⟨fun w => by have := check_ok A n cap w; rw [if_pos h1] at this; exact this⟩
  have fin : Hd (RuPost E n m most (letsF xs) (letsF ys) (.returned (.tuple #[zp, .int .i64 0, .int .i64 2]))) := ⟨by unfold RuPost; rw [if_pos (Or.inl h1)]⟩
  clear h1 hR hS hn hm HX HY
  go_enter Tryz.func4, Tryz.ntmps4
  go_wp2_with (go_at_call 7; refine (C1.out _).mono ?_; rintro e w' ⟨rfl, rfl⟩)
  exact bodyPost_ret (v := .tuple #[zp, .int .i64 0, .int .i64 2]) (by simp [results, Tryz.results4, go_sem]) rfl ⟨fin.out, by go_grown⟩
 have C1 : Hd (∀ w, Calls Tryz.prog 7 #[.slice A n cap] w fun e w' => e = .returned (.int .i64 0) ∧ w' = w) := ⟨fun w => by have := check_ok A n cap w; rw [if_neg h1] at this; exact this⟩
 by_cases h2 : 8 < m
 ·have C2 : Hd (∀ w, Calls Tryz.prog 7 #[.slice B m cap2] w fun e w' => e = .returned (.int .i64 2) ∧ w' = w) := ⟨fun w => by have := check_ok B m cap2 w; rw [if_pos h2] at this; exact this⟩
  have fin : Hd (RuPost E n m most (letsF xs) (letsF ys) (.returned (.tuple #[zp, .int .i64 0, .int .i64 2]))) := ⟨by unfold RuPost; rw [if_pos (Or.inr h2)]⟩
  clear h1 h2 hR hS hn hm HX HY
  go_enter Tryz.func4, Tryz.ntmps4
  go_wp2_with fail
  refine (C1.out _).mono ?_
  rintro e w' ⟨rfl, rfl⟩
  go_wp2_with fail
  refine (C2.out _).mono ?_
  rintro e w' ⟨rfl, rfl⟩
  go_wp2_with fail
  exact bodyPost_ret (v := .tuple #[zp, .int .i64 0, .int .i64 2]) (by simp [results, Tryz.results4, go_sem]) rfl ⟨fin.out, by go_grown⟩
 have C2 : Hd (∀ w, Calls Tryz.prog 7 #[.slice B m cap2] w fun e w' => e = .returned (.int .i64 0) ∧ w' = w) := ⟨fun w => by have := check_ok B m cap2 w; rw [if_neg h2] at this; exact this⟩
 have R0 : Hd (∀ e, RuPost E n m most (letsF xs) (letsF ys) e = if most < 2 ∨ 40000 < most then e = .returned (.tuple #[zp, .int .i64 0, .int .i64 1]) else BtPost E (letsF xs) (letsF ys) e) := ⟨fun e => by unfold RuPost; rw [if_neg (by omega)]⟩
 have l1 : xs.length <= 8 := by omega
 have l2 : ys.length <= 8 := by omega
 clear h1 h2 hn hm
 by_cases h3 : most < 2 ∨ 40000 < most
 ·have BT : Hd (∀ f g w, Calls Tryz.prog 8 #[.int .i64 most, f, g] w fun e w' => e = .returned (.tuple #[zp, .int .i64 0, .int .i64 1]) ∧ Below w.heap.size w w') := ⟨fun f g w => between_bad most f g w h3⟩
  have fin : Hd (RuPost E n m most (letsF xs) (letsF ys) (.returned (.tuple #[zp, .int .i64 0, .int .i64 1]))) := ⟨by rw [R0.out, if_pos h3]⟩
  clear h3 hR hS HX HY
  go_enter Tryz.func4, Tryz.ntmps4
  go_wp2_with fail
  refine (C1.out _).mono ?_
  rintro e w' ⟨rfl, rfl⟩
  go_wp2_with fail
  refine (C2.out _).mono ?_
  rintro e w' ⟨rfl, rfl⟩
  go_wp2_with fail
  refine (BT.out _ _ _).mono ?_
  rintro e w4 ⟨rfl, hb4⟩
  have W4 := chain hb4 W3
  have Z4 : w4.heap[w.heap.size + 1 + 1]? = some zc := (hb4.block _ (by simp)).trans (by rw [show w.heap.size + 1 + 1 = ((w.alloc (slC A n cap)).alloc (slC B m cap2)).heap.size by simp]; exact Go.heap_alloc_new _ _)
  obtain ⟨⟨q0, q1, q2, q3⟩, qf, ql⟩ := box_four Z4
  clear hb4 W1 W2 W3 Z4 C1 C2 BT
  go_wp2_with fail
  exact bodyPost_ret (v := .tuple #[zp, .int .i64 0, .int .i64 1]) (by simp [results, Tryz.results4, go_sem, q0, q1, q2, q3]) rfl ⟨fin.out, by go_grown⟩
 have R1 : Hd (∀ e, BtPost E (letsF xs) (letsF ys) e -> RuPost E n m most (letsF xs) (letsF ys) e) := ⟨fun e he => by rw [R0.out, if_neg h3]; exact he⟩
 clear R0
 obtain ⟨mo, rfl⟩ : ∃ mo : Nat, most = (mo : Int) := ⟨most.toNat, by omega⟩
 have BT : Hd (Calls Tryz.prog 8 #[.int .i64 (mo : Int), .func (.func 9) #[] #[.pointer (some ⟨w.heap.size, 0, none⟩)], .func (.func 11) #[] #[.pointer (some ⟨w.heap.size + 1, 0, none⟩)]] (((w.alloc (slC A n cap)).alloc (slC B m cap2)).alloc zc) fun e w' => BtPost E (letsF xs) (letsF ys) e ∧ Below (((w.alloc (slC A n cap)).alloc (slC B m cap2)).alloc zc).heap.size (((w.alloc (slC A n cap)).alloc (slC B m cap2)).alloc zc) w') := ⟨by
  refine between_rules _ (by omega) (by omega) E _ _ (rules_set1 A n cap xs _ (by simp; omega) ?_ E ⟨fun base a M W ns hb hA => HX.out mo rfl (by omega) (by omega) l1 base a M W ns (chain hb W3) hA⟩) (rules_set2 B m cap2 ys _ (by simp) ?_ E ⟨fun base a M W ns hb hA => HY.out mo rfl (by omega) (by omega) l2 base a M W ns (chain hb W3) hA⟩)
  ·have h0 : (((w.alloc (slC A n cap)).alloc (slC B m cap2)).alloc zc).heap[w.heap.size]? = some (slC A n cap) := by
    rw [Below.heap_alloc _ _ _ (by simp; omega), Below.heap_alloc _ _ _ (by simp)]
    exact Go.heap_alloc_new _ _
   rw [cell_of_row _ _ 0 _ _ _ h0]
   rfl
  ·have h0 : (((w.alloc (slC A n cap)).alloc (slC B m cap2)).alloc zc).heap[w.heap.size + 1]? = some (slC B m cap2) := by
    rw [Below.heap_alloc _ _ _ (by simp), show w.heap.size + 1 = (w.alloc (slC A n cap)).heap.size by simp]
    exact Go.heap_alloc_new _ _
   rw [cell_of_row _ _ 0 _ _ _ h0]
   rfl⟩
 clear h3 hR hS l1 l2 HX HY
 generalize letsF xs = φ at *
 generalize letsF ys = ψ at *
 go_enter Tryz.func4, Tryz.ntmps4
 go_wp2_with fail
 refine (C1.out _).mono ?_
 rintro e w' ⟨rfl, rfl⟩
 go_wp2_with fail
 refine (C2.out _).mono ?_
 rintro e w' ⟨rfl, rfl⟩
 go_wp2_with fail
 refine BT.out.mono ?_
 rintro e w4 ⟨hp, hb4⟩
 obtain ⟨x0, x1, x2, x3, k, er, rfl⟩ := hp.parts
 have fin := Hd.mk (R1.out _ hp)
 have W4 := chain hb4 W3
 have Z4 : w4.heap[w.heap.size + 1 + 1]? = some zc := (hb4.block _ (by simp)).trans (by rw [show w.heap.size + 1 + 1 = ((w.alloc (slC A n cap)).alloc (slC B m cap2)).heap.size by simp]; exact Go.heap_alloc_new _ _)
 obtain ⟨⟨q0, q1, q2, q3⟩, qf, ql⟩ := box_four Z4
 clear hb4 W1 W2 W3 Z4 C1 C2 BT hp R1
 go_wp2_with fail
 exact bodyPost_ret (v := .tuple #[pk x0 x1 x2 x3, .int .i64 k, .int .i64 er]) (by simp [results, Tryz.results4, go_sem, q0, q1, q2, q3]) rfl ⟨fin.out, by go_grown⟩
theorem bz_newR (w : World) (c : Array Value) (t : TypeId) : Bz (w.alloc (.cells c t)) w.heap.size c t := Bz.new w c t _ rfl
section
variable {w w' : World} {k : Nat} {c : Array Value} {t : TypeId}
theorem Bz.keepR (h : Bz w k c t) (hb : Below w.heap.size w w') : Bz w' k c t := (hb.block k h.lt).trans h
theorem Bz.atR (h : Bz w k c t) (j : Nat) : w.cell? ⟨k, j, none⟩ = c[j]? := cell_of_row w k j _ _ _ h
end
theorem Bz.fiveR {w : World} {k : Nat} {t : TypeId} {a b c d e : Value} (h : Bz w k #[a, b, c, d, e] t) : w.cell? ⟨k, 0, none⟩ = some a ∧ w.cell? ⟨k, 1, none⟩ = some b ∧ w.cell? ⟨k, 2, none⟩ = some c ∧ w.cell? ⟨k, 3, none⟩ = some d ∧ w.cell? ⟨k, 4, none⟩ = some e := ⟨h.atR 0, h.atR 1, h.atR 2, h.atR 3, h.atR 4⟩
theorem mAll_anyR (w : World) : Calls Tryz.prog 12 #[] w fun e w' => e = .returned (.agg #[.int .u16 65535, .int .u16 65535, .int .u8 255, .int .u8 255]) ∧ Below w.heap.size w w' := by
 go_enter Tryz.func12, Tryz.ntmps12
 go_wp2_with fail
 refine bodyPost_ret (v := .agg #[.int .u16 65535, .int .u16 65535, .int .u8 255, .int .u8 255]) (by simp [results, Tryz.results12, go_sem]) rfl ⟨rfl, ?_⟩
 exact Below.alloc' (Below.refl _ _) _
theorem all_anyR (ok : Bool) (w : World) : Calls Tryz.prog 5 #[.bool ok] w fun e w' => e = .returned (.agg #[.bool ok, .int .u16 65535, .int .u16 65535, .int .u8 255, .int .u8 255]) ∧ Below w.heap.size w w' := by
 have R1 := bz_newR w #[.bool false, .int .u16 0, .int .u16 0, .int .u8 0, .int .u8 0] 36
 have D1 := Below.alloc' (Below.refl w.heap.size w) (.cells #[.bool false, .int .u16 0, .int .u16 0, .int .u8 0, .int .u8 0] 36)
 go_enter Tryz.func5, Tryz.ntmps5
 go_wp2_with fail
 refine (mAll_anyR _).mono ?_
 rintro e w2 ⟨rfl, hb2⟩
 have R2 := R1.keepR hb2
 have D2 := chain hb2 D1
 obtain ⟨r0, r1, r2, r3, r4⟩ := R2.fiveR
 have f0 := R2.free 0
 have f1 := R2.free 1
 have f2 := R2.free 2
 have f3 := R2.free 3
 have f4 := R2.free 4
 go_wp2_with fail
 refine bodyPost_ret (v := .agg #[.bool ok, .int .u16 65535, .int .u16 65535, .int .u8 255, .int .u8 255]) (by simp [results, Tryz.results5, go_sem, r0, r1, r2, r3, r4]) rfl ⟨rfl, ?_⟩
 go_grown
section
variable {base q a M : Nat} {w0 w : World} {ns : List Nd} {er : Int}
end
def S8 : Nat -> Bool := fun v => decide (v < 8)
theorem devsFrom_allR {ds : List Dv} : ∀ (m k : Nat), ds.length - k <= m -> devsFrom ds k = 0 -> ∀ j d, k <= j -> ds[j]? = some d -> devWrong ds j d = 0
 | 0, k, h, _, j, d, hj, hd => by
   have := (List.getElem?_eq_some_iff.1 hd).1
   omega
 | m + 1, k, h, h0, j, d, hj, hd => by
   have hjl := (List.getElem?_eq_some_iff.1 hd).1
   have hk : k < ds.length := by omega
   rw [devsFrom_at (List.getElem?_eq_getElem hk)] at h0
   split at h0
   ·rename_i hw
    by_cases e : j = k
    ·subst e
     rw [List.getElem?_eq_getElem hk, Option.some.injEq] at hd
     rw [<- hd]
     exact hw
    ·exact devsFrom_allR m (k + 1) (by omega) h0 j d (by omega) hd
   ·rename_i hw
    exact absurd h0 hw
theorem netV_devsR {ds : List Dv} {ls : List Lk} (h : netV ds ls = 0) : ∀ d ∈ ds, devC d = 0 := by
 intro d hd
 obtain ⟨k, hk, e⟩ := List.mem_iff_getElem.1 hd
 unfold netV at h
 split at h
 ·simp at h
 ·split at h
  ·rename_i hz
   have := devsFrom_allR ds.length 0 (by omega) hz k d (Nat.zero_le _) (by rw [List.getElem?_eq_getElem hk, e])
   unfold devWrong at this
   split at this
   ·split at this
    ·simp at this
    ·exact this
   ·simp at this
  ·rename_i hz
   exact absurd h hz
def linkCR (l : Lk) : List Value := [.int .i64 l.a, .int .i64 l.p, .int .i64 l.b, .int .i64 l.q]
def linksCR (ls : List Lk) : List Value := ls.flatMap linkCR
structure FL (w : World) (vd vl : Value) (pc : Array Value) (MB : Nat) (vm : Value) (ms : List Lk) (W : World) : Prop where
 be : Below w.heap.size w W
 bN : Bz W w.heap.size #[vd, vl] 25
 bP : Bz W (w.heap.size + 1) pc 28
 bM : Bz W MB #[vd, vm] 25
 row : W.ownsRow w.heap.size 135 4 vm ms.length (linksCR ms)
 lM : w.heap.size + 1 < MB
section
variable {w W W' : World} {vd vl vm : Value} {pc : Array Value} {MB : Nat} {ms : List Lk}
end
theorem rnew_all (A B : Option Addr) (cap cap' : Nat) (ds : List Dv) (ls : List Lk) (w : World) (hD : Devs w.heap.size w (.slice A ds.length cap) ds) (hL : Links w.heap.size w (.slice B ls.length cap') ls) :
  Calls Tryz.prog 14 #[.agg #[.slice A ds.length cap, .slice B ls.length cap'], .int .i64 40000] w fun e w' => Below w.heap.size w w' ∧ ((∃ (bR R MR K : Nat) (sl : Value) (xs : List Value) (ns : List Nd) (s : Nat -> Nat -> Nat -> Nat), e = .returned (.tuple #[.pointer (some ⟨R, 0, none⟩), .int .i64 0]) ∧ Hd (netV ds ls = 0 ∧ RcF ds ls bR R MR 40000 K sl xs ns s w')) ∨ ∃ er : Int, e = .returned (.tuple #[.pointer none, .int .i64 er]) ∧ er ≠ 0 ∧ (er = 6 ∨ er = netV ds ls)) := by
 by_cases hz : netV ds ls = 0
 ·refine (rnew_any A B cap cap' ds ls 40000 (by omega) (by omega) hz (netV_devsR hz) hD hL 40000 True (fun k _ i q a b d hd _ _ _ => widB_any (netV_devsR hz d (List.mem_of_getElem? hd)) _ _ _ _ _ _)).mono fun e w' h => ?_
  obtain ⟨hb, ⟨bR, R, MR, K, sl, xs, ns, s, h1, h2, hF⟩ | ⟨h1, _⟩⟩ := h.made
  ·exact ⟨hb, Or.inl ⟨bR, R, MR, K, sl, xs, ns, s, h1, ⟨hz, hF⟩⟩⟩
  ·exact ⟨hb, Or.inr ⟨6, h1, by omega, Or.inl rfl⟩⟩
 ·exact (rnew_net _ _ ds ls 40000 w hD hL hz).mono fun e w' ⟨h1, h2⟩ => ⟨h2, Or.inr ⟨_, h1, hz, Or.inr rfl⟩⟩
def IsLast (ds : List Dv) (ls : List Lk) (K : Nat) : Prop := (∀ j, j < K -> cntF ds ls j < cntF ds ls (j + 1)) ∧ ∀ a b, a < 10 -> b < 4 -> SetF ds ls (K + 1) a b = SetF ds ls K a b
noncomputable abbrev hostF (ds : List Dv) (ls : List Lk) (s : List UInt8) (K : Nat) : Env -> Bool := atF (sliceD ds ls s) (sliceL ds ls s) K (findFrom (sliceD ds ls s) s 0) 0
def AtOut (da : List Dv) (la : List Lk) (db : List Dv) (lb : List Lk) (s : List UInt8) (e : Ending) : Prop :=
 (∃ er : Int, er ≠ 0 ∧ e = .returned (.tuple #[zp, .int .i64 0, .int .i64 er])) ∨
 ∃ Ka Kb, IsLast (sliceD da la s) (sliceL da la s) Ka ∧ IsLast (sliceD db lb s) (sliceL db lb s) Kb ∧ BtPost True (hostF da la s Ka) (hostF db lb s Kb) e
theorem bk_four {w : World} {k : Nat} {t : TypeId} {a b c d : Value} (h : Bk w k #[a, b, c, d] t) : (w.cell? ⟨k, 0, none⟩ = some a ∧ w.cell? ⟨k, 1, none⟩ = some b ∧ w.cell? ⟨k, 2, none⟩ = some c ∧ w.cell? ⟨k, 3, none⟩ = some d) ∧ (∀ j, w.frozen? ⟨k, j, none⟩ = false) ∧ k < w.heap.size := ⟨⟨h.at 0, h.at 1, h.at 2, h.at 3⟩, h.fz, h.lt⟩
theorem at_any2 (A B C D : Option Addr) (cap cap' cq cq' : Nat) (da : List Dv) (la : List Lk) (db : List Dv) (lb : List Lk) (s : ByteArray) (w : World) (hD : Hid (Devs w.heap.size w (.slice A da.length cap) da)) (hL : Hid (Links w.heap.size w (.slice B la.length cap') la)) (hE : Hid (Devs w.heap.size w (.slice C db.length cq) db)) (hM : Hid (Links w.heap.size w (.slice D lb.length cq') lb)) :
  Calls Tryz.prog 6 #[.agg #[.slice A da.length cap, .slice B la.length cap'], .agg #[.slice C db.length cq, .slice D lb.length cq'], .string s, .int .i64 40000] w fun e w' => AtOut da la db lb s.toList e ∧ Below w.heap.size w w' := by
 have D0 : Below w.heap.size w ((((w.alloc (.cells #[.slice A da.length cap, .slice B la.length cap'] 25)).alloc (.cells #[.slice C db.length cq, .slice D lb.length cq'] 25)).alloc (.cells #[.string s] 9)).alloc zc) := Below.alloc' (Below.alloc' (Below.alloc' (Below.alloc' (Below.refl _ _) _) _) _) _
 have N0 := (((bk_new w #[.slice A da.length cap, .slice B la.length cap'] 25).alloc (.cells #[.slice C db.length cq, .slice D lb.length cq'] 25)).alloc (.cells #[.string s] 9)).alloc zc
 have M0 := ((bk_new' (w.alloc (.cells #[.slice A da.length cap, .slice B la.length cap'] 25)) #[.slice C db.length cq, .slice D lb.length cq'] 25 (w.heap.size + 1) (by simp)).alloc (.cells #[.string s] 9)).alloc zc
 have S0 := (bk_new' ((w.alloc (.cells #[.slice A da.length cap, .slice B la.length cap'] 25)).alloc (.cells #[.slice C db.length cq, .slice D lb.length cq'] 25)) #[.string s] 9 (w.heap.size + 1 + 1) (by simp)).alloc zc
 have Z0 := bk_new' (((w.alloc (.cells #[.slice A da.length cap, .slice B la.length cap'] 25)).alloc (.cells #[.slice C db.length cq, .slice D lb.length cq'] 25)).alloc (.cells #[.string s] 9)) #[.int .i64 0, .int .i64 0, .int .i64 0, .int .i64 0] 28 (w.heap.size + 1 + 1 + 1) (by simp)
 have SA : Hid (∀ W, Below w.heap.size w W -> Calls Tryz.prog 13 #[.agg #[.slice A da.length cap, .slice B la.length cap'], .string s] W (SliceOut W da la s.toList)) := fun W h => slice_any A B cap cap' da la s W ((hD.out.below h).mono h.size) ((hL.out.below h).mono h.size)
 have SB : Hid (∀ W, Below w.heap.size w W -> Calls Tryz.prog 13 #[.agg #[.slice C db.length cq, .slice D lb.length cq'], .string s] W (SliceOut W db lb s.toList)) := fun W h => slice_any C D cq cq' db lb s W ((hE.out.below h).mono h.size) ((hM.out.below h).mono h.size)
 clear hD hL hE hM
 go_enter Tryz.func6, Tryz.ntmps6
 obtain ⟨n0, n1⟩ := N0.two
 have s0 := S0.one.1
 go_wp2_with fail
 refine (SA.out _ D0).mono ?_
 rintro e w1 ⟨hb1, hc1⟩
 have D1 := chain hb1 D0
 have M1 := Bk.keep hb1 M0
 have S1 := Bk.keep hb1 S0
 have Z1 := Bk.keep hb1 Z0
 clear hb1 D0 M0 S0 Z0 N0 SA n0 n1 s0
 rcases hc1 with ⟨he1, rfl⟩ | ⟨he1, A1, c1, B1, c1', rfl, C1⟩
 ·clear SB
  have he1' : (sliceE da la s.toList != 0) = true := by simpa using he1
  have hx : Below w1.heap.size w1 (w1.alloc (.cells #[nilS, nilS] 25)) := Below.alloc' (Below.refl _ _) _
  have D7 := chain hx D1
  have Z7 := Bk.keep hx Z1
  clear hx D1 M1 S1 Z1
  go_upto_region 3 with fail
  generalize w1.alloc (.cells #[nilS, nilS] 25) = w7 at *
  obtain ⟨⟨q0, q1, q2, q3⟩, qf, ql⟩ := bk_four Z7
  go_wp2_with fail
  exact bodyPost_ret (v := .tuple #[zp, .int .i64 0, .int .i64 (sliceE da la s.toList)]) (by simp [results, Tryz.results6, go_sem, q0, q1, q2, q3]) rfl ⟨Or.inl ⟨_, he1, rfl⟩, by go_grown⟩
 have hx : Below w1.heap.size w1 (w1.alloc (.cells #[.slice A1 (sliceD da la s.toList).length c1, .slice B1 (sliceL da la s.toList).length c1'] 25)) := Below.alloc' (Below.refl _ _) _
 have D2 := chain hx D1
 have M2 := Bk.keep hx M1
 have S2 := Bk.keep hx S1
 have Z2 := Bk.keep hx Z1
 have P2 := bk_new w1 #[.slice A1 (sliceD da la s.toList).length c1, .slice B1 (sliceL da la s.toList).length c1'] 25
 have C2 := C1.below hx
 clear hx D1 M1 S1 Z1 C1 he1
 go_upto_region 4 with fail
 generalize w1.alloc (.cells #[.slice A1 (sliceD da la s.toList).length c1, .slice B1 (sliceL da la s.toList).length c1'] 25) = w2 at *
 generalize w1.heap.size = p1 at *
 obtain ⟨m0, m1⟩ := M2.two
 have s0 := S2.one.1
 have lm := M2.lt
 have ls := S2.lt
 go_wp2_with fail
 refine (SB.out _ D2).mono ?_
 rintro e w3 ⟨hb3, hc3⟩
 have D3 := chain hb3 D2
 have S3 := Bk.keep hb3 S2
 have Z3 := Bk.keep hb3 Z2
 have P3 := Bk.keep hb3 P2
 have C3 := C2.below hb3
 clear hb3 D2 M2 S2 Z2 P2 C2 SB m0 m1 s0 lm ls
 rcases hc3 with ⟨he3, rfl⟩ | ⟨he3, A3, c3, B3, c3', rfl, E3⟩
 ·have he3' : (sliceE db lb s.toList != 0) = true := by simpa using he3
  have hx : Below w3.heap.size w3 (w3.alloc (.cells #[nilS, nilS] 25)) := Below.alloc' (Below.refl _ _) _
  have D7 := chain hx D3
  have Z7 := Bk.keep hx Z3
  clear hx D3 S3 Z3 P3 C3
  go_upto_region 6 with fail
  generalize w3.alloc (.cells #[nilS, nilS] 25) = w7 at *
  obtain ⟨⟨q0, q1, q2, q3⟩, qf, ql⟩ := bk_four Z7
  go_wp2_with fail
  exact bodyPost_ret (v := .tuple #[zp, .int .i64 0, .int .i64 (sliceE db lb s.toList)]) (by simp [results, Tryz.results6, go_sem, q0, q1, q2, q3]) rfl ⟨Or.inl ⟨_, he3, rfl⟩, by go_grown⟩
 have hx : Below w3.heap.size w3 (w3.alloc (.cells #[.slice A3 (sliceD db lb s.toList).length c3, .slice B3 (sliceL db lb s.toList).length c3'] 25)) := Below.alloc' (Below.refl _ _) _
 have D4 := chain hx D3
 have S4 := Bk.keep hx S3
 have Z4 := Bk.keep hx Z3
 have P4 := Bk.keep hx P3
 have Q4 := bk_new w3 #[.slice A3 (sliceD db lb s.toList).length c3, .slice B3 (sliceL db lb s.toList).length c3'] 25
 have C4 := C3.below hx
 have E4 := E3.below hx
 clear hx D3 S3 Z3 P3 C3 E3 he3
 go_upto_region 7 with fail
 generalize w3.alloc (.cells #[.slice A3 (sliceD db lb s.toList).length c3, .slice B3 (sliceL db lb s.toList).length c3'] 25) = w4 at *
 generalize w3.heap.size = p2 at *
 have FH : Hid (∀ Ka Kb e, IsLast (sliceD da la s.toList) (sliceL da la s.toList) Ka -> IsLast (sliceD db lb s.toList) (sliceL db lb s.toList) Kb -> BtPost True (hostF da la s.toList Ka) (hostF db lb s.toList Kb) e -> AtOut da la db lb s.toList e) := fun Ka Kb e h1 h2 h3 => Or.inr ⟨Ka, Kb, h1, h2, h3⟩
 have FE : Hid (∀ er : Int, er ≠ 0 -> AtOut da la db lb s.toList (.returned (.tuple #[zp, .int .i64 0, .int .i64 er]))) := fun er h => Or.inl ⟨er, h, rfl⟩
 unfold hostF at FH
 generalize sliceD da la s.toList = dx at *
 generalize sliceL da la s.toList = lx at *
 generalize sliceD db lb s.toList = dy at *
 generalize sliceL db lb s.toList = ly at *
 have RA : Hid (∀ W, Below w4.heap.size w4 W -> Calls Tryz.prog 14 #[.agg #[.slice A1 dx.length c1, .slice B1 lx.length c1'], .int .i64 40000] W fun e w' => Below W.heap.size W w' ∧ ((∃ (bR R MR K : Nat) (sl : Value) (xs : List Value) (ns : List Nd) (s : Nat -> Nat -> Nat -> Nat), e = .returned (.tuple #[.pointer (some ⟨R, 0, none⟩), .int .i64 0]) ∧ Hd (netV dx lx = 0 ∧ RcF dx lx bR R MR 40000 K sl xs ns s w')) ∨ ∃ er : Int, e = .returned (.tuple #[.pointer none, .int .i64 er]) ∧ er ≠ 0)) := fun W h => (rnew_all A1 B1 c1 c1' dx lx W (C4.below h).devs (C4.below h).links).mono fun e w' ⟨h1, h2⟩ => ⟨h1, h2.imp id fun ⟨er, a1, a2, _⟩ => ⟨er, a1, a2⟩⟩
 have RB : Hid (∀ W, Below w4.heap.size w4 W -> Calls Tryz.prog 14 #[.agg #[.slice A3 dy.length c3, .slice B3 ly.length c3'], .int .i64 40000] W fun e w' => Below W.heap.size W w' ∧ ((∃ (bR R MR K : Nat) (sl : Value) (xs : List Value) (ns : List Nd) (s : Nat -> Nat -> Nat -> Nat), e = .returned (.tuple #[.pointer (some ⟨R, 0, none⟩), .int .i64 0]) ∧ Hd (netV dy ly = 0 ∧ RcF dy ly bR R MR 40000 K sl xs ns s w')) ∨ ∃ er : Int, e = .returned (.tuple #[.pointer none, .int .i64 er]) ∧ er ≠ 0)) := fun W h => (rnew_all A3 B3 c3 c3' dy ly W (E4.below h).devs (E4.below h).links).mono fun e w' ⟨h1, h2⟩ => ⟨h1, h2.imp id fun ⟨er, a1, a2, _⟩ => ⟨er, a1, a2⟩⟩
 obtain ⟨p0, p0'⟩ := P4.two
 have lp := P4.lt
 go_wp2_with fail
 refine (RA.out _ (Below.refl _ _)).mono ?_
 rintro e w5 ⟨hb5, hc5⟩
 have B5 : Below w4.heap.size w4 w5 := hb5
 clear hb5 RA p0 p0' lp
 rcases hc5.symm with ⟨er, rfl, he5⟩ | ⟨bR, R, MR, K, sl, xs, ns, sF, rfl, hF⟩
 ·have he5' : (er != 0) = true := by simpa using he5
  have D5 := chain B5 D4
  have Z5 := Bk.keep B5 Z4
  have hx : Below w5.heap.size w5 (w5.alloc (.cells #[.pointer none] 49)) := Below.alloc' (Below.refl _ _) _
  have D6 := chain hx D5
  have Z6 := Bk.keep hx Z5
  clear hc5 D5 Z5 hx B5 RB FH
  go_upto_region 9 with fail
  generalize w5.alloc (.cells #[.pointer none] 49) = w6 at *
  obtain ⟨⟨q0, q1, q2, q3⟩, qf, ql⟩ := bk_four Z6
  go_wp2_with fail
  exact bodyPost_ret (v := .tuple #[zp, .int .i64 0, .int .i64 er]) (by simp [results, Tryz.results6, go_sem, q0, q1, q2, q3]) rfl ⟨FE.out er he5, by go_grown⟩
 have hx : Below w5.heap.size w5 (w5.alloc (.cells #[.pointer (some ⟨R, 0, none⟩)] 49)) := Below.alloc' (Below.refl _ _) _
 have B6 := chain hx B5
 have F6 := hF.out.2.below hx
 have R6 := bk_new w5 #[.pointer (some ⟨R, 0, none⟩)] 49
 clear hc5 hF hx B5
 go_upto_region 10 with fail
 generalize w5.alloc (.cells #[.pointer (some ⟨R, 0, none⟩)] 49) = w6 at *
 generalize w5.heap.size = r1 at *
 obtain ⟨p0, p0'⟩ := (Bk.keep B6 Q4).two
 have lp := (Bk.keep B6 Q4).lt
 go_wp2_with fail
 refine (RB.out _ B6).mono ?_
 rintro e w7 ⟨hb7, hc7⟩
 have B7 := chain hb7 B6
 have F7 := F6.below hb7
 have R7 := Bk.keep hb7 R6
 clear hb7 RB p0 p0' lp B6 F6 R6
 rcases hc7.symm with ⟨er, rfl, he5⟩ | ⟨bR2, R2, MR2, K2, sl2, xs2, ns2, sF2, rfl, hF⟩
 ·have he5' : (er != 0) = true := by simpa using he5
  have D5 := chain B7 D4
  have Z5 := Bk.keep B7 Z4
  have hx : Below w7.heap.size w7 (w7.alloc (.cells #[.pointer none] 49)) := Below.alloc' (Below.refl _ _) _
  have D6 := chain hx D5
  have Z6 := Bk.keep hx Z5
  clear hc7 D5 Z5 hx B7 FH F7 R7
  go_upto_region 12 with fail
  generalize w7.alloc (.cells #[.pointer none] 49) = w8 at *
  obtain ⟨⟨q0, q1, q2, q3⟩, qf, ql⟩ := bk_four Z6
  go_wp2_with fail
  exact bodyPost_ret (v := .tuple #[zp, .int .i64 0, .int .i64 er]) (by simp [results, Tryz.results6, go_sem, q0, q1, q2, q3]) rfl ⟨FE.out er he5, by go_grown⟩
 have hx : Below w7.heap.size w7 (w7.alloc (.cells #[.pointer (some ⟨R2, 0, none⟩)] 49)) := Below.alloc' (Below.refl _ _) _
 have B8 := chain hx B7
 have F8 := F7.below hx
 have G8 := hF.out.2.below hx
 have R8 := Bk.keep hx R7
 have T8 := bk_new w7 #[.pointer (some ⟨R2, 0, none⟩)] 49
 clear hc7 hF hx B7 F7 R7
 go_upto_region 13 with fail
 generalize w7.alloc (.cells #[.pointer (some ⟨R2, 0, none⟩)] 49) = w8 at *
 generalize w7.heap.size = r2 at *
 have D8 := chain B8 D4
 have S8 := Bk.keep B8 S4
 have Z8 := Bk.keep B8 Z4
 have P8 := Bk.keep B8 P4
 have Q8 := Bk.keep B8 Q4
 have V1 : AtV w8 r1 p1 (w.heap.size + 1 + 1) R A1 B1 dx.length c1 lx.length c1' s := ⟨R8.one.1, P8.two.1, P8.two.2, S8.one.1, R8.lt, P8.lt, S8.lt⟩
 have V2 : AtV w8 r2 p2 (w.heap.size + 1 + 1) R2 A3 B3 dy.length c3 ly.length c3' s := ⟨T8.one.1, Q8.two.1, Q8.two.2, S8.one.1, T8.lt, Q8.lt, S8.lt⟩
 have BT : Hid (Calls Tryz.prog 8 #[.int .i64 40000, .func (.func 15) #[] #[.pointer (some ⟨r1, 0, none⟩), .pointer (some ⟨p1, 0, none⟩), .pointer (some ⟨w.heap.size + 1 + 1, 0, none⟩)], .func (.func 18) #[] #[.pointer (some ⟨r2, 0, none⟩), .pointer (some ⟨p2, 0, none⟩), .pointer (some ⟨w.heap.size + 1 + 1, 0, none⟩)]] w8 fun e w' => (∃ x0 x1 x2 x3 k er : Int, e = .returned (.tuple #[pk x0 x1 x2 x3, .int .i64 k, .int .i64 er])) ∧ Hid (AtOut da la db lb s.toList e) ∧ Below w8.heap.size w8 w') := (between_at (most := 40000) (nS := w.heap.size + 1 + 1) w8 (by omega) (by omega) True _ _ (at_set1 V1 F8 (C4.below B8).devs) (at_set2 V2 G8 (E4.below B8).devs)).mono fun e w' ⟨h1, h2⟩ => ⟨h1.parts, FH.out K K2 e ⟨F8.up, F8.fix⟩ ⟨G8.up, G8.fix⟩ h1, h2⟩
 clear V1 V2 F8 G8 C4 E4 P8 Q8 R8 T8 S8 B8 FH FE D4 S4 Z4 P4 Q4
 have lz := Z8.lt
 go_wp2_with fail
 refine BT.out.mono ?_
 rintro e w9 ⟨⟨x0, x1, x2, x3, k, er, rfl⟩, hO, hb9⟩
 have D9 := chain hb9 D8
 have Z9 := Bk.keep hb9 Z8
 clear BT D8 Z8 hb9 lz
 obtain ⟨⟨q0, q1, q2, q3⟩, qf, ql⟩ := bk_four Z9
 go_wp2_with fail
 exact bodyPost_ret (v := .tuple #[pk x0 x1 x2 x3, .int .i64 k, .int .i64 er]) (by simp [results, Tryz.results6, go_sem, q0, q1, q2, q3, pk]) rfl ⟨hO.out, by go_grown⟩
theorem LeastD.uniqS {n : Nat} {P Q : Nat -> Bool} {c d : Nat} (h : LeastD n P Q c) (k : LeastD n Q P d) : c = d := by
 rcases Nat.lt_trichotomy c d with l | l | l
 ·exact absurd (k.2.2 c l).symm h.2.1
 ·exact l
 ·exact absurd (h.2.2 d l).symm k.2.1
def PairOk (x0 x1 x2 x3 k er y0 y1 y2 y3 k' er' : Int) : Prop :=
 er ≠ 0 ∨ er' ≠ 0 ∨ (x0 = y0 ∧ x1 = y1 ∧ x2 = y2 ∧ x3 = y3 ∧ ((k = 0 ∧ k' = 0) ∨ (k = 1 ∧ k' = 2) ∨ (k = 2 ∧ k' = 1)))
abbrev tri (x0 x1 x2 x3 k er : Int) : Ending := .returned (.tuple #[pk x0 x1 x2 x3, .int .i64 k, .int .i64 er])
theorem tri_inj {x0 x1 x2 x3 k er y0 y1 y2 y3 k' er' : Int} (h : tri x0 x1 x2 x3 k er = tri y0 y1 y2 y3 k' er') : x0 = y0 ∧ x1 = y1 ∧ x2 = y2 ∧ x3 = y3 ∧ k = k' ∧ er = er' := by
 unfold tri pk at h
 simp only [Ending.returned.injEq, Value.tuple.injEq, Array.mk.injEq, List.cons.injEq, Value.agg.injEq, Value.int.injEq, and_true, true_and] at h
 obtain ⟨⟨h1, h2, h3, h4⟩, h5, h6⟩ := h
 exact ⟨h1, h2, h3, h4, h5, h6⟩
theorem bt_pair {φ ψ : Env -> Bool} {x0 x1 x2 x3 k er y0 y1 y2 y3 k' er' : Int} (h : BtPost True φ ψ (tri x0 x1 x2 x3 k er)) (h' : BtPost True ψ φ (tri y0 y1 y2 y3 k' er')) : PairOk x0 x1 x2 x3 k er y0 y1 y2 y3 k' er' := by
 rcases h with ⟨e, _⟩ | ⟨e, hx⟩ | ⟨c, e, hc⟩
 ·obtain ⟨_, _, _, _, _, rfl⟩ := tri_inj e
  exact Or.inl (by decide)
 ·obtain ⟨rfl, rfl, rfl, rfl, rfl, rfl⟩ := tri_inj e
  rcases h' with ⟨e', _⟩ | ⟨e', _⟩ | ⟨d, _, hd⟩
  ·obtain ⟨_, _, _, _, _, rfl⟩ := tri_inj e'
   exact Or.inr (Or.inl (by decide))
  ·obtain ⟨rfl, rfl, rfl, rfl, rfl, rfl⟩ := tri_inj e'
   exact Or.inr (Or.inr ⟨rfl, rfl, rfl, rfl, Or.inl ⟨rfl, rfl⟩⟩)
  ·exact absurd (hx _).symm hd.2.1
 ·obtain ⟨rfl, rfl, rfl, rfl, rfl, rfl⟩ := tri_inj e
  rcases h' with ⟨e', _⟩ | ⟨e', hx⟩ | ⟨d, e', hd⟩
  ·obtain ⟨_, _, _, _, _, rfl⟩ := tri_inj e'
   exact Or.inr (Or.inl (by decide))
  ·exact absurd (hx _).symm hc.2.1
  ·obtain rfl := hc.uniqS hd
   obtain ⟨rfl, rfl, rfl, rfl, rfl, rfl⟩ := tri_inj e'
   refine Or.inr (Or.inr ⟨rfl, rfl, rfl, rfl, ?_⟩)
   have := hc.2.1
   cases hp : φ (envOf 14 c) <;> cases hq : ψ (envOf 14 c) <;> simp [hp, hq] at this ⊢
theorem bt_self {E : Prop} {φ : Env -> Bool} {x0 x1 x2 x3 k er : Int} (h : BtPost E φ φ (tri x0 x1 x2 x3 k er)) : k = 0 := by
 rcases h with ⟨e, _⟩ | ⟨e, _⟩ | ⟨c, _, hc⟩
 ·exact (tri_inj e).2.2.2.2.1
 ·exact (tri_inj e).2.2.2.2.1
 ·exact absurd rfl hc.2.1
theorem bt_const {φ ψ : Env -> Bool} {e : Ending} (h : BtPost False φ ψ e) (h1 : ∀ x, φ x = true) (h2 : ∀ x, ψ x = false) : e = tri 0 0 0 0 1 0 := by
 rcases h with ⟨_, h⟩ | ⟨_, hx⟩ | ⟨c, e, hc⟩
 ·exact h.elim
 ·have := hx (fun _ => false)
  rw [h1, h2] at this
  cases this
 ·have : c = 0 := by
   rcases Nat.eq_zero_or_pos c with h0 | h0
   ·exact h0
   ·have := hc.2.2 0 h0
    simp only [h1, h2] at this
    cases this
  subst this
  rw [e, h1]
  rfl
theorem ru_parts {E : Prop} {n m : Nat} {φ ψ : Env -> Bool} {e : Ending} (h : RuPost E n m 40000 φ ψ e) : ∃ x0 x1 x2 x3 k er : Int, e = tri x0 x1 x2 x3 k er := by
 unfold RuPost at h
 split at h
 ·exact ⟨0, 0, 0, 0, 0, 2, h⟩
 ·rw [if_neg (by omega)] at h
  exact h.parts
theorem ru_self {E : Prop} {n : Nat} {φ : Env -> Bool} {x0 x1 x2 x3 k er : Int} (h : RuPost E n n 40000 φ φ (tri x0 x1 x2 x3 k er)) : k = 0 := by
 unfold RuPost at h
 split at h
 ·exact (tri_inj h).2.2.2.2.1
 ·rw [if_neg (by omega)] at h
  exact bt_self h
theorem ru_pair {n m : Nat} {φ ψ : Env -> Bool} {x0 x1 x2 x3 k er y0 y1 y2 y3 k' er' : Int} (h : RuPost True n m 40000 φ ψ (tri x0 x1 x2 x3 k er)) (h' : RuPost True m n 40000 ψ φ (tri y0 y1 y2 y3 k' er')) : PairOk x0 x1 x2 x3 k er y0 y1 y2 y3 k' er' := by
 unfold RuPost at h h'
 split at h
 ·have := (tri_inj h).2.2.2.2.2
  exact Or.inl (by omega)
 ·rename_i hn
  rw [if_neg (by omega)] at h
  rw [if_neg (by omega), if_neg (by omega)] at h'
  exact bt_pair h h'
theorem cntF_eq {ds : List Dv} {ls : List Lk} {K : Nat} (h : ∀ a b, a < 10 -> b < 4 -> SetF ds ls (K + 1) a b = SetF ds ls K a b) : cntF ds ls (K + 1) = cntF ds ls K := by
 unfold cntF
 apply List.countP_congr
 intro n hn
 have hn' : n < 655360 := by simpa using hn
 rw [h _ _ (by omega) (by omega)]
theorem IsLast.uniq {ds : List Dv} {ls : List Lk} {K J : Nat} (h : IsLast ds ls K) (k : IsLast ds ls J) : K = J := by
 have key : ∀ {K J : Nat}, IsLast ds ls K -> IsLast ds ls J -> ¬ K < J := fun {K J} h k hlt => by
  have h1 := k.1 K hlt
  have h2 : cntF ds ls (K + 1) = cntF ds ls K := cntF_eq h.2
  omega
 have := key h k
 have := key k h
 omega
theorem at_parts {da db : List Dv} {la lb : List Lk} {s : List UInt8} {e : Ending} (h : AtOut da la db lb s e) : ∃ x0 x1 x2 x3 k er : Int, e = tri x0 x1 x2 x3 k er := by
 rcases h with ⟨er, _, h⟩ | ⟨_, _, _, _, h⟩
 ·exact ⟨0, 0, 0, 0, 0, er, h⟩
 ·exact h.parts
theorem at_self {da : List Dv} {la : List Lk} {s : List UInt8} {x0 x1 x2 x3 k er : Int} (h : AtOut da la da la s (tri x0 x1 x2 x3 k er)) : k = 0 := by
 rcases h with ⟨er, _, h⟩ | ⟨Ka, Kb, h1, h2, h⟩
 ·exact (tri_inj h).2.2.2.2.1
 ·obtain rfl := h1.uniq h2
  exact bt_self h
theorem at_pair {da db : List Dv} {la lb : List Lk} {s : List UInt8} {x0 x1 x2 x3 k er y0 y1 y2 y3 k' er' : Int} (h : AtOut da la db lb s (tri x0 x1 x2 x3 k er)) (h' : AtOut db lb da la s (tri y0 y1 y2 y3 k' er')) : PairOk x0 x1 x2 x3 k er y0 y1 y2 y3 k' er' := by
 rcases h with ⟨e1, he, h⟩ | ⟨Ka, Kb, h1, h2, h⟩
 ·have := (tri_inj h).2.2.2.2.2
  exact Or.inl (by omega)
 rcases h' with ⟨e1, he, h'⟩ | ⟨Kc, Kd, h3, h4, h'⟩
 ·have := (tri_inj h').2.2.2.2.2
  exact Or.inr (Or.inl (by omega))
 obtain rfl := h1.uniq h4
 obtain rfl := h2.uniq h3
 exact bt_pair h h'
end Go.Proofs.YtmcklkkkkigflaaGreat
