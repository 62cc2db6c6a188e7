/-
  XAI.
-/
import Derived.Test.YtppbfikimalojaaGreatXAH
import Derived.Shelf.Bits.Mul64
import Derived.Ground.Names2Prog
import Derived.Test.YtppbfikimalojaaGreatProg
import Derived.Laws.CopyOwn
import Derived.Laws.MakeOwn
import Derived.Deep.RegionLaw
import Derived.Deep.OwnRows
import Derived.Test.YtppbfikimalojaaGreatXAD
import Derived.Test.YtppbfikimalojaaGreatXAA
import Derived.Laws.AppendOwnNone
import Derived.Lib.SliceRun
import Derived.ChangeKeysEq
set_option maxHeartbeats 8000000
set_option maxRecDepth 100000
namespace Go.Proofs.YtppbfikimalojaaGreat
open Go.RowKit Go.Maps
structure Fvs (w : World) (N : Nat) (nv : Array Value) (ds : List Dv) (ls : List Lk) (cs : Array Value) (k : Nat) (er : Int) (W : World) : Prop where
 bel : Below w.heap.size w W
 bN : Bz W w.heap.size nv 25
 bR : Bz W (w.heap.size + 1) zr11 118
 bX : Bz W N cs 118
 sz : cs.size = 11 ∧ cs.all (·.oneCell') = true
 q : (er = 0 ∧ ∃ (bq aq Mq : Nat) (ns : List Nd) (s : Nat -> Nat), w.heap.size <= bq ∧ Ar bq aq Mq 14 40000 W ns ∧ SetsW cs aq s ∧ ∀ j, j < 10 -> s j < ns.length ∧ ∀ x, ev ns (s j) x = FF ds ls k j x) ∨ er = 6
theorem Fvs.row {w W : World} {N k : Nat} {nv c cs : Array Value} {ds : List Dv} {ls : List Lk} {er : Int} (hN : w.heap.size + 1 < N) (h1 : Below w.heap.size w W) (h2 : Bz W w.heap.size nv 25) (h3 : Bz W (w.heap.size + 1) zr11 118) (h4 : Bz W N c 118) (hs : cs.size = 11 ∧ cs.all (·.oneCell') = true)
  (hq : (er = 0 ∧ ∃ (bq aq Mq : Nat) (ns : List Nd) (s : Nat -> Nat), w.heap.size <= bq ∧ Ar bq aq Mq 14 40000 W ns ∧ SetsW cs aq s ∧ ∀ j, j < 10 -> s j < ns.length ∧ ∀ x, ev ns (s j) x = FF ds ls k j x) ∨ er = 6) : Fvs w N nv ds ls cs k er (W.setRow N cs) := by
 have hF : ∀ i, i ≠ N -> (W.setRow N cs).heap[i]? = W.heap[i]? := fun i hi => by rw [setRow_heap' W N c cs _ h4 i, if_neg (fun e => hi e.symm)]
 refine ⟨below_setRow h1 h4 (by omega), (hF _ (by omega)).trans h2, (hF _ (by omega)).trans h3, h4.setRow, hs, ?_⟩
 rcases hq with ⟨e, bq, aq, Mq, ns, s, q1, q2, q3, q4⟩ | e
 ·exact Or.inl ⟨e, bq, aq, Mq, ns, s, q1, q2.farSet h4 hF, q3, q4⟩
 ·exact Or.inr e
theorem forever_any (w : World) (A B : Option Addr) (cap cap' : Nat) (ds : List Dv) (ls : List Lk) (hz : Hid (netV ds ls = 0)) (hdv : Hid (∀ d ∈ ds, devC d = 0)) (hD : Hid (Devs w.heap.size w (.slice A ds.length cap) ds)) (hL : Hid (Links w.heap.size w (.slice B ls.length cap') ls)) :
  Calls Tryz.prog 51 #[.agg #[.slice A ds.length cap, .slice B ls.length cap']] w (SOut w (FF ds ls ds.length)) := by
 obtain ⟨w1, hw1⟩ : ∃ w1, w1 = (w.alloc (.cells #[.slice A ds.length cap, .slice B ls.length cap'] 25)).alloc (.cells zr11 118) := ⟨_, rfl⟩
 have D1 : Below w.heap.size w w1 := by rw [hw1]; exact Below.alloc' (Below.alloc' (Below.refl _ _) _) _
 have bN : Bz w1 w.heap.size #[.slice A ds.length cap, .slice B ls.length cap'] 25 := by rw [hw1]; exact (Bz.new w _ _ _ rfl).al _
 have bR : Bz w1 (w.heap.size + 1) zr11 118 := by rw [hw1]; exact Bz.new _ _ _ _ (by simp)
 have hs1 : w1.heap.size = w.heap.size + 1 + 1 := by rw [hw1]; simp
 have EV : Hid (Calls Tryz.prog 92 #[] w1 (SOut w1 (fun _ _ => true))) := everything_any w1
 have hd10 : ds.length <= 10 := (netV_links hz.out).1
 obtain ⟨V, hV⟩ : ∃ V : Nat -> Array Value -> Nat -> Int -> World -> Prop, V = fun N cs k er W => Fvs w N #[.slice A ds.length cap, .slice B ls.length cap'] ds ls cs k er W := ⟨_, rfl⟩
 have V0 : Hid (∀ {w2 : World} {cs : Array Value} {er : Int}, Below w1.heap.size w1 w2 -> cs.size = 11 ∧ cs.all (·.oneCell') = true -> ((er = 0 ∧ ∃ (bq aq Mq : Nat) (ns : List Nd) (s : Nat -> Nat), w1.heap.size <= bq ∧ Ar bq aq Mq 14 40000 w2 ns ∧ SetsW cs aq s ∧ ∀ j, j < 10 -> s j < ns.length ∧ ∀ x, ev ns (s j) x = (fun _ _ => true : Nat -> Env -> Bool) j x) ∨ er = 6) ->
   Hid (Bz (w2.alloc (.cells zr11 118)) w2.heap.size zr11 118) ∧ Hid ((Tryz.prog.info? 118).map (·.size) = some cs.size) ∧ Hid (zr11.size = cs.size) ∧ Hid (cs.all (·.oneCell') = true) ∧ V w2.heap.size cs 0 er ((w2.alloc (.cells zr11 118)).setRow w2.heap.size cs)) := fun {w2 cs er} hb hc hq => by
  have l2 := hb.size
  rw [hV]
  refine ⟨Bz.new _ _ _ _ rfl, ?_, ?_, hc.2, ?_⟩
  ·show _ = _
   rw [hc.1]
   exact iRing
  ·show _ = _
   rw [hc.1]
   rfl
  ·refine Fvs.row (c := zr11) (by omega) (Below.alloc' (D1.trans (hb.mono (by omega))) _) (Bz.al (show Bz w2 w.heap.size _ _ from (hb.block _ (by omega)).trans bN) _) (Bz.al (show Bz w2 (w.heap.size + 1) _ _ from (hb.block _ (by omega)).trans bR) _) (Bz.new _ _ _ _ rfl) hc ?_
   rcases hq with ⟨e, bq, aq, Mq, ns, s, q1, q2, q3, q4⟩ | e
   ·exact Or.inl ⟨e, bq, aq, Mq, ns, s, by omega, q2.below (Below.alloc' (Below.refl _ _) _), q3, q4⟩
   ·exact Or.inr e
 have VC : Hid (∀ {N : Nat} {cs : Array Value} {k : Nat} {er : Int} {W : World}, V N cs k er W -> W.cell? ⟨w.heap.size, 0, none⟩ = some (.slice A ds.length cap) ∧ W.cell? ⟨w.heap.size, 1, none⟩ = some (.slice B ls.length cap') ∧ N < W.heap.size ∧ Hid (Bz W N cs 118) ∧ Hid ((Tryz.prog.info? 118).map (·.size) = some cs.size)) := fun {N cs k er W} h => by
  rw [hV] at h
  refine ⟨h.bN.cell 0 _ rfl, h.bN.cell 1 _ rfl, h.bX.lt, h.bX, ?_⟩
  show _ = _
  rw [h.sz.1]
  exact iRing
 have HP : Hid (∀ {N : Nat} {cs : Array Value} {k : Nat} {er : Int} {W : World}, w.heap.size + 1 < N -> er = 0 -> V N cs k er W -> Calls Tryz.prog 93 #[.agg cs, .agg #[.slice A ds.length cap, .slice B ls.length cap']] W fun e w' => ∃ (cs' : Array Value) (er' : Int), e = .returned (.tuple #[.agg cs', .int .i64 er']) ∧ Hid (Bz w' N cs 118) ∧ Hid ((Tryz.prog.info? 118).map (·.size) = some cs'.size) ∧ Hid (cs.size = cs'.size) ∧ Hid (cs'.all (·.oneCell') = true) ∧ V N cs' (k + 1) er' (w'.setRow N cs')) := fun {N cs k er W} hN he h => by
  rw [hV] at h ⊢
  obtain ⟨bq, aq, Mq, ns, s, q1, q2, q3, q4⟩ : ∃ (bq aq Mq : Nat) (ns : List Nd) (s : Nat -> Nat), w.heap.size <= bq ∧ Ar bq aq Mq 14 40000 W ns ∧ SetsW cs aq s ∧ ∀ j, j < 10 -> s j < ns.length ∧ ∀ x, ev ns (s j) x = FF ds ls k j x := by
   rcases h.q with ⟨_, q⟩ | e
   ·exact q
   ·omega
  have hsz := h.bel.size
  refine (hop_any q2 q3 (FF ds ls k) q4 A B cap cap' ds ls hz hdv ((hD.out.below h.bel).mono hsz) ((hL.out.below h.bel).mono hsz)).mono fun e w' ⟨cs', er', e1, hb, hc, hq⟩ => ⟨cs', er', e1, (hb.block _ h.bX.lt).trans h.bX, ?_, ?_, hc.out.2, ?_⟩
  ·show _ = _
   rw [hc.out.1]
   exact iRing
  ·show _ = _
   rw [hc.out.1, h.sz.1]
  ·refine Fvs.row (c := cs) hN (h.bel.trans (hb.mono hsz)) ((hb.block _ h.bN.lt).trans h.bN) ((hb.block _ h.bR.lt).trans h.bR) ((hb.block _ h.bX.lt).trans h.bX) hc.out ?_
   rcases hq.out with ⟨e, b2, a2, M2, n2, s2, r1, r2, r3, r4⟩ | e
   ·exact Or.inl ⟨e, b2, a2, M2, n2, s2, by omega, r2, r3, r4⟩
   ·exact Or.inr e
 have FIN : Hid (∀ {N : Nat} {cs : Array Value} {k : Nat} {er : Int} {W : World} (co : Array Value), w.heap.size + 1 < N -> V N cs k er W -> (co = cs ∧ k = ds.length) ∨ (er = 6 ∧ co = zr11) -> Hid (Bz W (w.heap.size + 1) zr11 118) ∧ Hid (Bz (W.setRow (w.heap.size + 1) co) (w.heap.size + 1) co 118) ∧ Hid (SOut w (FF ds ls ds.length) (.returned (.tuple #[.agg co, .int .i64 er])) (W.setRow (w.heap.size + 1) co)) ∧ Hid ((Tryz.prog.info? 118).map (·.size) = some co.size) ∧ Hid (zr11.size = co.size) ∧ Hid (co.all (·.oneCell') = true)) := fun {N cs k er W} co hN h hc => by
  rw [hV] at h
  have hF : ∀ i, i ≠ w.heap.size + 1 -> (W.setRow (w.heap.size + 1) co).heap[i]? = W.heap[i]? := fun i hi => by rw [setRow_heap' W _ zr11 co _ h.bR i, if_neg (fun e => hi e.symm)]
  have hco : co.size = 11 ∧ co.all (·.oneCell') = true := by
   rcases hc with ⟨rfl, _⟩ | ⟨_, rfl⟩
   ·exact h.sz
   ·exact ⟨rfl, by simp [Value.oneCell']⟩
  refine ⟨h.bR, h.bR.setRow, ⟨co, er, rfl, below_setRow h.bel h.bR (by omega), hco, ?_⟩, ?_, ?_, hco.2⟩
  ·rcases hc with ⟨rfl, rfl⟩ | ⟨e, _⟩
   ·rcases h.q with ⟨e, bq, aq, Mq, ns, s, q1, q2, q3, q4⟩ | e
    ·exact Or.inl ⟨e, bq, aq, Mq, ns, s, q1, q2.farSet h.bR hF, q3, q4⟩
    ·exact Or.inr e
   ·exact Or.inr e
  ·show _ = _
   rw [hco.1]
   exact iRing
  ·show _ = _
   rw [hco.1]
   rfl
 clear D1 bN bR hD hL hz hdv
 subst hw1
 go_enter Tryz.func51, Tryz.ntmps51
 go_wp2_with fail
 refine EV.out.mono ?_
 rintro e w2 ⟨cs0, er0, rfl, hb, hc, hq⟩
 clear EV
 have l2 : w.heap.size + 1 < w2.heap.size := by have := hb.size; rw [hs1] at this; omega
 obtain ⟨BZ, HM, HZ, HO, V1⟩ := V0.out hb hc.out hq.out
 clear V0 hb hc hq hs1
 dsimp only
 iterate 14 go_step
 refine wp_store_row 118 _ _ rfl _ cs0 rfl rfl _ _ BZ.out HM.out HZ.out HO.out ?_
 simp only [Act.put]
 obtain ⟨n0, n1, _, _⟩ := VC.out V1
 clear BZ HM HZ HO
 go_wp2_with fail
 go_loopw [5, 13] (fun v5 v13 wr => ∃ (k : Nat) (cs : Array Value) (er : Int), v5 = .int .i64 er ∧ v13 = .int .i64 (k : Int) ∧ k <= ds.length ∧ V w2.heap.size cs k er wr) (fun _ v13 _ => ds.length - (intOf v13).toNat)
 case atStart => exact ⟨0, cs0, er0, rfl, rfl, by omega, V1⟩
 case round =>
  clear V1 n0 n1
  obtain ⟨k, cs, er, rfl, rfl, hk, V1⟩ := hrel
  by_cases hlt : k < ds.length
  ·have l1 : (k : Int) < (ds.length : Int) := by omega
   by_cases he : er = 0
   ·obtain ⟨n0, n1, lt1, BS, HN⟩ := VC.out V1
    have HC := HP.out l2 he V1
    have HC : Hid (Calls Tryz.prog 93 _ _ _) := HC
    clear FIN HP VC V1
    go_upto_region 6 with fail
    go_step
    refine wpList_load_row rfl 118 _ rfl _ rfl _ cs (0, 0) _ BS.out uRing rfl HN.out ?_
    simp only [Act.put, List.setIfInBounds_toArray, List.set_cons_zero, List.set_cons_succ]
    go_wp2_with fail
    refine HC.out.mono ?_
    rintro e w3 ⟨cs3, er3, rfl, BX, HM, HZ, HO, V3⟩
    clear HC n0 n1 lt1 BS HN
    dsimp only
    iterate 11 go_step
    refine wp_store_row 118 _ _ rfl _ cs3 rfl rfl _ _ BX.out HM.out HZ.out HO.out ?_
    simp only [Act.put]
    clear BX HM HZ HO
    go_wp2_with fail
    go_roundw
    case rel => exact ⟨k + 1, cs3, er3, rfl, by go_num, by omega, V3⟩
    case measure => simp [intOf]; omega
   ·have E6 : Hid (er = 6) := by
     rw [hV] at V1
     rcases V1.q with ⟨h, _⟩ | h
     ·exact absurd h he
     ·exact h
    obtain rfl := E6.out
    obtain ⟨BZ, BR, FF, HM, HZ, HO⟩ := FIN.out zr11 l2 V1 (Or.inr ⟨rfl, rfl⟩)
    clear FIN HP VC V1 E6 he hV
    go_upto_region 5 with fail
    iterate 8 go_step
    refine wp_store_row 118 _ _ rfl _ zr11 rfl rfl _ _ BZ.out HM.out rfl (by simp [Value.oneCell']) ?_
    simp only [Act.put]
    go_wp2_with fail
    exact bodyPost_ret (v := .tuple #[.agg zr11, .int .i64 6]) (by simp [results, Tryz.results51, asAddr, run_loadVar_row (wr.setRow (w.heap.size + 1) zr11) (w.heap.size + 1) 118 118 zr11 (0, 0) _ BR.out uRing rfl HM.out]) rfl FF.out
  ·obtain rfl : k = ds.length := by omega
   obtain ⟨n0, n1, lt1, BS, HN⟩ := VC.out V1
   obtain ⟨BZ, BR, FF, HM, HZ, HO⟩ := FIN.out cs l2 V1 (Or.inl ⟨rfl, rfl⟩)
   clear FIN HP VC V1 hV
   go_upto_region 8 with fail
   go_step
   refine wpList_load_row rfl 118 _ rfl _ rfl _ cs (0, 0) _ BS.out uRing rfl HN.out ?_
   simp only [Act.put, List.setIfInBounds_toArray, List.set_cons_zero, List.set_cons_succ]
   iterate 4 go_step
   refine wp_store_row 118 _ _ rfl _ cs rfl rfl _ _ BZ.out HM.out HZ.out HO.out ?_
   simp only [Act.put]
   go_wp2_with fail
   exact bodyPost_ret (v := .tuple #[.agg cs, .int .i64 er]) (by simp [results, Tryz.results51, asAddr, run_loadVar_row (wr.setRow (w.heap.size + 1) cs) (w.heap.size + 1) 118 118 cs (0, 0) _ BR.out uRing rfl HM.out]) rfl FF.out
def NPost (b1 a1 M1 most : Nat) (w : World) (g : Env -> Bool) (e : Ending) (w' : World) : Prop :=
 ∃ (ns' : List Nd) (v er : Int), e = .returned (.tuple #[.int .i64 v, .int .i64 er]) ∧ Hid (Ar b1 a1 M1 14 most w' ns' ∧ Kp (ca b1 a1 M1 14 most) w w') ∧ Hid ((er = 0 ∧ v = ((T 14 0 g e00 : Nat) : Int)) ∨ (er = 6 ∧ v = 0))
theorem rcount_any {b1 a1 M1 most bq aq Mq : Nat} {ns1 nsS : List Nd} {w : World} (hS : Ar bq aq Mq 14 40000 w nsS) (hA : Ar b1 a1 M1 14 most w ns1) (ap : ∀ i, i = aq ∨ i = Mq ∨ i = rowOf w aq -> i ≠ a1 ∧ i ≠ M1 ∧ i ≠ rowOf w a1) {cs : Array Value} {s : Nat -> Nat} (hW : SetsW cs aq s) (G : Env -> Bool) {j : Nat} (hj : j < 10) (hs : s j < nsS.length) (hG : ∀ x, ev nsS (s j) x = G x) :
  Calls Tryz.prog 52 #[.agg cs, .pointer (some ⟨a1, 0, none⟩), .int .i64 (j : Int)] w (NPost b1 a1 M1 most w G) := by
 have a0 : (0 : Int) <= (j : Int) := by omega
 have a10 : (j : Int) < 10 := by omega
 have D1 : Below w.heap.size w (w.alloc (.cells cs 118)).drew := (Below.alloc' (Below.refl _ _) _).drew
 have PB : Bz (w.alloc (.cells cs 118)).drew w.heap.size cs 118 := Bz.new w _ _ _ rfl
 obtain ⟨KS, hKS⟩ : ∃ KS : List Nd -> World -> Prop, KS = fun ns W => Ar b1 a1 M1 14 most W ns ∧ Kp (ca b1 a1 M1 14 most) w W ∧ Bz W w.heap.size cs 118 := ⟨_, rfl⟩
 have K1 : KS ns1 (w.alloc (.cells cs 118)).drew := by rw [hKS]; exact ⟨hA.below D1, hA.kbelow D1, PB⟩
 have KC : Hid (∀ {ns : List Nd} {W : World}, KS ns W -> W.cell? ⟨w.heap.size, 0, none⟩ = some (.pointer (some ⟨aq, 0, none⟩)) ∧ W.cell? ⟨w.heap.size, 1 + j, none⟩ = some (.int .i64 (s j : Int))) := fun {ns W} h => by
  rw [hKS] at h
  exact ⟨h.2.2.cell 0 _ hW.p, h.2.2.cell _ _ (hW.at' j hj)⟩
 have TK : Hid (Calls Tryz.prog 94 #[.pointer (some ⟨a1, 0, none⟩), .pointer (some ⟨aq, 0, none⟩), .int .i64 (s j : Int)] (w.alloc (.cells cs 118)).drew fun e w' => ∃ (ns' : List Nd) (v er : Int), e = .returned (.tuple #[.int .i64 v, .int .i64 er]) ∧ KS ns' w' ∧ Hid ((er = 0 ∧ ∃ f : Nat, v = (f : Int) ∧ f < ns'.length ∧ ∀ x, ev ns' f x = G x) ∨ (er = 6 ∧ v = 0))) := by
  have hA' := hA.below D1
  have hS' := hS.below D1
  have e1 : rowOf (w.alloc (.cells cs 118)).drew aq = rowOf w aq := rowOf_same (D1.block _ hS.lta)
  have e2 : rowOf (w.alloc (.cells cs 118)).drew a1 = rowOf w a1 := rowOf_same (D1.block _ hA.lta)
  show Calls _ _ _ _ _
  refine (take_fit (fun _ => true) hA' hS' (Nat.le_refl _) (fun x hx => by rw [e2]; rw [e1] at hx; exact ap x hx) hs (fit1_all (Nat.le_add_left _ _)) (by omega)).mono fun e w' hp => ?_
  obtain ⟨ns', v, er, h1, h2, h3, h4, h5⟩ := hp.ap.of hG
  refine ⟨ns', v, er, h1, ?_, h5⟩
  rw [hKS]
  exact ⟨h2, (hA.kbelow D1).trans h3, ((hA'.outBox PB (by decide) (by decide)).kp h3).blk⟩
 have CN : Hid (∀ {ns : List Nd} {W : World} (f : Nat), f < ns.length -> (∀ x, ev ns f x = G x) -> KS ns W -> Calls Tryz.prog 49 #[.pointer (some ⟨a1, 0, none⟩), .int .i64 (f : Int)] W fun e w' => ∃ v : Int, e = .returned (.tuple #[.int .i64 v, .int .i64 0]) ∧ NPost b1 a1 M1 most w G (.returned (.tuple #[.int .i64 v, .int .i64 0])) w') := fun {ns W} f hf hg h => by
  rw [hKS] at h
  refine (count_a h.1 hf).mono fun e w' ⟨h1, h2⟩ => ⟨_, h1, ns, _, 0, rfl, ⟨h.1.below h2, h.2.1.trans (h.1.kbelow h2)⟩, Or.inl ⟨rfl, ?_⟩⟩
  rw [cn_all h.1.wf hf e00, T_ext hg]
 have BAD : Hid (∀ {ns : List Nd} {W : World}, KS ns W -> NPost b1 a1 M1 most w G (.returned (.tuple #[.int .i64 0, .int .i64 6])) W) := fun {ns W} h => by
  rw [hKS] at h
  exact ⟨ns, 0, 6, rfl, ⟨h.1, h.2.1⟩, Or.inr ⟨rfl, rfl⟩⟩
 obtain ⟨y0, y1⟩ := KC.out K1
 clear hKS PB D1 hS hA ap hW hs hG
 go_enter Tryz.func52, Tryz.ntmps52
 go_wp2_with fail
 go_region_held3 (fun W => W.cell? ⟨w.heap.size, 0, none⟩ = some (.pointer (some ⟨aq, 0, none⟩)) ∧ W.cell? ⟨w.heap.size, 1 + j, none⟩ = some (.int .i64 (s j : Int))) (exact KC.out (by assumption))
  ((first
    | (go_at_call 94; (with_reducible refine TK.out.mono ?_); rintro e w7 ⟨ns', v, er, rfl, K7, hv7⟩; skip)))
 all_goals
  clear TK y0 y1 KC K1
  by_cases he : er = 0
  rotate_left
  ·have E6 : Hid (er = 6) := by
    rcases hv7.out with ⟨h, _⟩ | ⟨h, _⟩
    ·exact absurd h he
    ·exact h
   obtain rfl := E6.out
   have FF := BAD.out K7
   clear BAD E6 hv7 he CN K7
   go_wp2_with fail
   go_ret2
   exact FF
  subst he
  obtain ⟨f, rfl, hf⟩ : ∃ g : Nat, v = (g : Int) ∧ Hid (g < ns'.length ∧ ∀ x, ev ns' g x = G x) := by
   rcases hv7.out with ⟨_, g, h1, h2⟩ | ⟨h, _⟩
   ·exact ⟨g, h1, h2⟩
   ·cases h
  have CC := CN.out f hf.out.1 hf.out.2 K7
  have CC : Hid (Calls Tryz.prog 49 _ _ _) := CC
  clear hv7 hf K7 CN BAD
  go_wp2_with fail
  refine CC.out.mono ?_
  rintro e w8 ⟨v8, rfl, FF⟩
  have FF : Hid (NPost _ _ _ _ _ _ _ _) := FF
  clear CC
  go_wp2_with fail
  go_ret2
  exact FF.out
end Go.Proofs.YtppbfikimalojaaGreat
namespace Go.Proofs
open Go.Shelf
def Tryz.lays212_ren : Go.Shelf.Ren := ⟨fun | 212 => 95 | 263 => 144 | 264 => 145 | n => n, fun | 46 => 173 | 51 => 222 | 146 => 223 | 53 => 225 | 148 => 226 | n => n, fun | n => n⟩
theorem Tryz.lays212 : Go.Proofs.Lays.n212 Tryz.prog Tryz.lays212_ren := {
 mixed := by kernel_rfl
 f212 := Tryz.func95.trans (congrArg some (by kernel_rfl))
 f263 := Tryz.func144.trans (congrArg some (by kernel_rfl))
 f264 := Tryz.func145.trans (congrArg some (by kernel_rfl))
 t46 := Tryz.underlying173
 a46 := Tryz.isAgg173
 z46 := Tryz.sizeOf173
 v46 := Tryz.zeroValue173
 t51 := Tryz.underlying222
 a51 := Tryz.isAgg222
 z51 := Tryz.sizeOf222
 v51 := Tryz.zeroValue222
 t53 := Tryz.underlying225
 a53 := Tryz.isAgg225
 z53 := Tryz.sizeOf225
 v53 := Tryz.zeroValue225
 t146 := Tryz.underlying223
 a146 := Tryz.isAgg223
 z146 := Tryz.sizeOf223
 v146 := Tryz.zeroValue223
 t148 := Tryz.underlying226
 a148 := Tryz.isAgg226
 z148 := Tryz.sizeOf226
 v148 := Tryz.zeroValue226 }
open Go.RowKit Go.Lib in
theorem Tryz.bits_Mul (x y : Nat) (hx : x < 18446744073709551616) (hy : y < 18446744073709551616) (w : World) :
  Calls Tryz.prog 95 #[.int .u64 x, .int .u64 y] w fun e w' => e = .returned (.tuple #[.int .u64 ((x * y / 18446744073709551616 : Nat) : Int), .int .u64 ((x * y % 18446744073709551616 : Nat) : Int)]) ∧ w' = w := Any.bits_Mul Tryz.lays212 x y hx hy w
end Go.Proofs
namespace Go.Proofs.YtppbfikimalojaaGreat
open Go.RowKit Go.Maps
theorem infoIntN : (Tryz.prog.info? 3).map (fun i => (i.zero, i.size, i.bytes)) = some (some (.int .i64 0), 1, 8) := by kernel_rfl
theorem sizeIntN : (Tryz.prog.info? 3).map (·.size) = some 1 := by kernel_rfl
def repR (v : Int) (n m : Nat) : List Value := List.replicate m (.int .i64 v) ++ List.replicate (n - m) (.int .i64 0)
theorem repR_len {v : Int} {n m : Nat} (h : m <= n) : (repR v n m).length = n := by simp [repR]; omega
theorem repR_zero (v : Int) (n : Nat) : madeCells #[.int .i64 0] n = (repR v n 0).toArray := by
 apply Array.ext'
 simp [madeCells, repR, Nat.mod_one]
 rw [List.eq_replicate_iff]
 simp
theorem repR_splice {v : Int} {n m k : Nat} (h : m + k <= n) : splice (repR v n m) m (List.replicate k (.int .i64 v)) = repR v n (m + k) := by
 unfold splice repR
 rw [List.take_left' (by simp), List.length_replicate, List.drop_append, List.drop_eq_nil_of_le (by simp), List.nil_append, List.drop_replicate, List.length_replicate, <- List.append_assoc, List.replicate_append_replicate, show n - m - (m + k - m) = n - (m + k) by omega]
theorem repeat_any (w : World) (g c : Nat) (v : Int) (n : Nat) (hn1 : 1 <= n) (hn : n <= 4) (h0 : w.cell? ⟨g, 0, none⟩ = some (.int .i64 v)) (hg : g < w.heap.size) :
  Calls Tryz.prog 53 #[.slice (some ⟨g, 0, none⟩) 1 c, .int .i64 (n : Int)] w fun e w' => ∃ N, e = .returned (.slice (some ⟨N, 0, none⟩) n n) ∧ Hid (w.heap.size <= N ∧ Below w.heap.size w w' ∧ Bz w' N (List.replicate n (.int .i64 v)).toArray 3) := by
 have MU : Hid (Calls Tryz.prog 95 #[.int .u64 1, .int .u64 (n : Int)] w fun e w' => e = .returned (.tuple #[.int .u64 0, .int .u64 (n : Int)]) ∧ w' = w) := by
  have := Tryz.bits_Mul 1 n (by omega) (by omega) w
  rw [show 1 * n / 18446744073709551616 = 0 by omega, show 1 * n % 18446744073709551616 = n by omega] at this
  exact this
 have l0 : ¬ (n : Int) < 0 := by omega
 have l9 : ¬ (9223372036854775807 : Int) < (n : Int) := by omega
 have mk := fun w => run_make_row' (P := Tryz.prog) 50 3 (.int .i64 0) 8 Tryz.underlying50 infoIntN rfl .i64 .i64 n (by omega) (by omega) w
 rw [repR_zero v n] at mk
 obtain ⟨V, hV⟩ : ∃ V : Nat -> World -> Prop, V = fun m W => Below w.heap.size w W ∧ Hid (Bz W w.heap.size (repR v n m).toArray 3) := ⟨_, rfl⟩
 have V1 : Hid (∀ {W : World}, Hid (W.heap[w.heap.size]? = some (.cells (splice (repR v n 0) 0 [.int .i64 v]).toArray 3 (0, 0))) -> Below w.heap.size w W -> V 1 W) := fun {W} h hb => by
  rw [hV]
  have e := repR_splice (v := v) (n := n) (m := 0) (k := 1) (by omega)
  rw [show List.replicate 1 (Value.int .i64 v) = [.int .i64 v] from rfl] at e
  refine ⟨hb, ?_⟩
  show _ = _
  have := h.out
  rw [e] at this
  exact this
 have D0 : Below w.heap.size w (w.alloc (.cells (repR v n 0).toArray 3)) := Below.alloc' (Below.refl _ _) _
 have B0 : Bz (w.alloc (.cells (repR v n 0).toArray 3)) w.heap.size (repR v n 0).toArray 3 := Bz.new w _ _ _ rfl
 have C0 : Hid (∀ (j : Nat) (u : Value), [Value.int .i64 v][j]? = some u -> (w.alloc (.cells (repR v n 0).toArray 3)).cell? ((⟨g, 0, none⟩ : Addr).add j) = some u) := fun j u hj => by
  have hj0 : j = 0 := by
   have := (List.getElem?_eq_some_iff.1 hj).1
   simp at this
   omega
  subst hj0
  obtain rfl := Option.some.inj hj
  exact (D0.cell (p := ⟨g, 0, none⟩) hg).trans h0
 go_enter Tryz.func53, Tryz.ntmps53
 go_wp2_with fail
 refine MU.out.mono ?_
 rintro e w' ⟨rfl, rfl⟩
 clear MU
 go_upto_region 7 with fail
 iterate 7 go_step
 refine wpList_copy_splice rfl (.tmp 31) (.tmp 32) 50 50 rfl 3 Tryz.underlying50 sizeIntN _ _ _ _ _ _ rfl rfl w'.heap.size 0 (repR v n 0) 3 B0 [.int .i64 v] (show 1 = min 1 n by omega) (fun _ => ⟨rfl, _, rfl, C0.out⟩) (by rw [repR_len (by omega)]; simp; omega) (by simp [Value.oneCell']) w'.heap.size w' D0 (Nat.le_refl _) ?_
 intro w2 hg2 hb2
 have W1 := V1.out hg2 hb2
 have SP : Hid (∀ {m : Nat} {W : World}, m < n -> V m W -> W.heap[w'.heap.size]? = some (.cells (repR v n m).toArray 3 (0, 0)) ∧ Below w'.heap.size w' W ∧ ∀ (k : Nat), k <= m -> m + k <= n -> ∀ (j : Nat) (u : Value), (List.replicate k (Value.int .i64 v))[j]? = some u -> W.cell? ((⟨w'.heap.size, 0, none⟩ : Addr).add j) = some u) := fun {m W} hm h => by
  rw [hV] at h
  refine ⟨h.2.out, h.1, fun k hk hmk j u hj => ?_⟩
  rw [List.getElem?_replicate] at hj
  split at hj
  ·obtain rfl := Option.some.inj hj
   have hj' : j < m := by omega
   rw [show ((⟨w'.heap.size, 0, none⟩ : Addr).add j) = ⟨w'.heap.size, 0 + j, none⟩ by simp [Addr.add]; omega]
   refine h.2.out.cell (0 + j) _ ?_
   rw [List.getElem?_toArray]
   unfold repR
   rw [List.getElem?_append_left (by simp; omega), List.getElem?_replicate, if_pos (by omega)]
  ·cases hj
 have SV : Hid (∀ {m k : Nat} {W : World}, m + k <= n -> Hid (W.heap[w'.heap.size]? = some (.cells (splice (repR v n m) m (List.replicate k (.int .i64 v))).toArray 3 (0, 0))) -> Below w'.heap.size w' W -> V (m + k) W) := fun {m k W} hm h hb => by
  rw [hV]
  refine ⟨hb, ?_⟩
  have := h.out
  rw [repR_splice hm] at this
  exact this
 have FIN : Hid (∀ {W : World}, V n W -> Hid (w'.heap.size <= w'.heap.size ∧ Below w'.heap.size w' W ∧ Bz W w'.heap.size (List.replicate n (.int .i64 v)).toArray 3)) := fun {W} h => by
  rw [hV] at h
  refine ⟨Nat.le_refl _, h.1, ?_⟩
  have := h.2.out
  unfold repR at this
  rw [Nat.sub_self, List.replicate_zero, List.append_nil] at this
  exact this
 clear hV D0 B0 C0 V1 mk hg2 hb2 h0
 go_wp2_with fail
 go_loopw [8] (fun v8 wr => ∃ m : Nat, v8 = .int .i64 (m : Int) ∧ 1 <= m ∧ m <= n ∧ V m wr) (fun v8 _ => n - (intOf v8).toNat)
 case atStart => exact ⟨1, rfl, by omega, by omega, W1⟩
 case round =>
  clear W1
  obtain ⟨m, rfl, hm1, hm, V2⟩ := hrel
  by_cases hlt : m < n
  ·have l1 : (m : Int) < (n : Int) := by omega
   have l2 : (0 : Int) <= (m : Int) := by omega
   have l3 : (m : Int) <= (n : Int) := by omega
   obtain ⟨k, hk1, hk2, hk3, hk4⟩ : ∃ k, k <= m ∧ m + k <= n ∧ Hid (k = min m (n - m)) ∧ 1 <= k := ⟨min m (n - m), by omega, by omega, rfl, by omega⟩
   obtain ⟨q1, q2, q3⟩ := SP.out hlt V2
   have hwr : Hid (IntKind.i64.wrap ((m : Int) + (k : Int)) = ((m + k : Nat) : Int)) := by
    show _ = _
    rw [IntWalk.i64_in _ (by omega)]
    omega
   go_upto_region 9 with fail
   go_region_law (refine step_copy_splice rfl (.tmp 41) (.tmp 44) 50 50 rfl 3 Tryz.underlying50 sizeIntN (some ⟨w'.heap.size, m, none⟩) (some ⟨w'.heap.size, 0, none⟩) (n - m) (n - m) m n (by simp [Act.eval, Act.put]; omega) (by simp [Act.eval, Act.put]) w'.heap.size m (repR v n m) 3 q1 (List.replicate k (.int .i64 v)) (by rw [List.length_replicate]; exact hk3.out) (fun _ => ⟨rfl, _, rfl, q3 k hk1 hk2⟩) (by rw [repR_len (by omega), List.length_replicate]; omega) (by simp [Value.oneCell']) w'.heap.size w' q2.drew (Nat.le_refl _) ?_; intro w4 hg4 hb4; rw [List.length_replicate])
   all_goals
    rw [hwr.out]
    have V4 := SV.out hk2 hg4 hb4
    clear SV SP FIN V2 q1 q2 q3 hg4 hb4
    go_wp2_with fail
    go_roundw
    case rel => exact ⟨m + k, by go_num, by omega, by omega, V4⟩
    case measure => simp [intOf]; omega
  ·obtain rfl : m = n := by omega
   have FF := FIN.out V2
   clear FIN SP SV V2
   go_wp2_with fail
   go_ret
   exact ⟨_, rfl, FF⟩
end Go.Proofs.YtppbfikimalojaaGreat
namespace Go.Proofs.YtppbfikimalojaaGreat
open Go.RowKit
def remB (k : Int) : Bool := !(k == 1) && !(k == 2)
theorem rem_any (nm : ByteArray) (k ad : Int) (pl : Nat) (vb vr vt : Value) (w : World) :
  Calls Tryz.prog 91 #[devA nm k ad pl vb vr vt] w fun e w' => e = .returned (.bool (remB k)) ∧ Below w.heap.size w w' := by
 have D0 := Below.alN (Below.refl w.heap.size w) (.cells #[.string nm, .int .i64 k, .int .i64 ad, .int .u8 (pl : Int), vb, vr, vt] 56)
 by_cases h1 : k = 1
 ·subst h1
  go_enter Tryz.func91, Tryz.ntmps91
  go_wp2_with fail
  go_ret
  exact ⟨rfl, D0⟩
 by_cases h2 : k = 2
 ·subst h2
  go_enter Tryz.func91, Tryz.ntmps91
  go_wp2_with fail
  go_ret
  exact ⟨rfl, D0⟩
 have e1 : (k == 1) = false := by simpa using h1
 have e2 : (k == 2) = false := by simpa using h2
 have fin : Hid (remB k = true) := by show _ = _; unfold remB; rw [e1, e2]; rfl
 go_enter Tryz.func91, Tryz.ntmps91
 go_wp2_with fail
 go_ret
 exact ⟨by rw [fin.out]; simp [h1, h2], D0⟩
theorem any_takeD {ds : List Dv} {k : Nat} {x : Dv} {p : Dv -> Bool} (h : ds[k]? = some x) : (ds.take (k + 1)).any p = ((ds.take k).any p || p x) := by
 rw [List.take_add_one, h]
 simp
theorem remIdx_any (A : Option Addr) (n cap : Nat) (ds : List Dv) (w : World) (hD : Hid (Devs w.heap.size w (.slice A n cap) ds)) :
  Calls Tryz.prog 107 #[.slice A n cap, .func (.func 91) #[] #[]] w fun e w' => ∃ j : Int, e = .returned (.int .i64 j) ∧ Hid (decide (0 <= j) = ds.any (fun d => remB d.kind)) ∧ Below w.heap.size w w' := by
 obtain ⟨rfl, hc, hm⟩ := hD.out.len
 unfold maxLen at hm
 go_enter Tryz.func107, Tryz.ntmps107
 go_wp2_with fail
 go_loopw [8] (fun i wr => ∃ k : Nat, i = .int .i64 (k : Int) ∧ k <= ds.length ∧ Below w.heap.size w wr ∧ Hid ((ds.take k).any (fun d => remB d.kind) = false)) (fun i _ => ds.length - (intOf i).toNat)
 case atStart => exact ⟨0, rfl, by omega, Below.refl _ _, rfl⟩
 case round =>
  obtain ⟨k, rfl, hk, D1, hno⟩ := hrel
  by_cases hlt : k < ds.length
  ·obtain ⟨d, hxk⟩ : ∃ d, ds[k]? = some d := ⟨_, List.getElem?_eq_getElem hlt⟩
   obtain ⟨b, o, vb, vr, vt, rfl, hb, _, _, _, c0, c1, c2, c3, c4, c5, c6⟩ := (hD.out.below D1).at hxk
   have PR : Hid (Calls Tryz.prog 91 #[devA d.name d.kind d.addr d.pool vb vr vt] wr fun e w' => e = .returned (.bool (remB d.kind)) ∧ Below wr.heap.size wr w') := rem_any d.name d.kind d.addr d.pool vb vr vt wr
   have HX : Hid (ds[k]? = some d) := hxk
   have k1 : (0 : Int) <= (k : Int) := by omega
   have k2 : (k : Int) < (ds.length : Int) := by omega
   clear hxk hD
   cases hv : remB d.kind
   ·rw [hv] at PR
    have HV : Hid ((ds.take (k + 1)).any (fun d => remB d.kind) = false) := by show _ = _; rw [any_takeD HX.out, hno.out, hv]; rfl
    clear hv hno HX
    generalize d.name = nm at *
    generalize d.kind = kd at *
    generalize d.addr = ad at *
    generalize d.pool = pl at *
    go_wp2_with fail
    refine PR.out.mono ?_
    rintro e w2 ⟨rfl, hb2⟩
    have D2 := chnN hb2 D1
    clear hb2 D1 c0 c1 c2 c3 c4 c5 c6 PR
    go_wp2_with fail
    go_roundw
    case rel => exact ⟨k + 1, by go_num, by omega, D2, HV⟩
    case measure => simp [intOf]; omega
   ·rw [hv] at PR
    have fin : Hid (ds.any (fun d => remB d.kind) = true) := List.any_eq_true.2 ⟨d, List.mem_of_getElem? HX.out, hv⟩
    clear hv hno HX
    generalize d.name = nm at *
    generalize d.kind = kd at *
    generalize d.addr = ad at *
    generalize d.pool = pl at *
    go_wp2_with fail
    refine PR.out.mono ?_
    rintro e w2 ⟨rfl, hb2⟩
    have D2 := chnN hb2 D1
    clear hb2 D1 c0 c1 c2 c3 c4 c5 c6 PR
    go_wp2_with fail
    go_ret
    exact ⟨_, rfl, (by show _ = _; rw [fin.out]; simp), D2⟩
  ·have fin : Hid (ds.any (fun d => remB d.kind) = false) := by
    have := hno.out
    rw [show k = ds.length by omega, List.take_length] at this
    exact this
   go_wp2_with fail
   go_ret
   exact ⟨_, rfl, (by show _ = _; rw [fin.out]; simp), D1⟩
theorem remHas_any (A : Option Addr) (n cap : Nat) (ds : List Dv) (w : World) (hD : Hid (Devs w.heap.size w (.slice A n cap) ds)) :
  Calls Tryz.prog 90 #[.slice A n cap, .func (.func 91) #[] #[]] w fun e w' => e = .returned (.bool (ds.any (fun d => remB d.kind))) ∧ Below w.heap.size w w' := by
 have IX : Hid (Calls Tryz.prog 107 #[.slice A n cap, .func (.func 91) #[] #[]] w fun e w' => ∃ j : Int, e = .returned (.int .i64 j) ∧ Hid (decide (0 <= j) = ds.any (fun d => remB d.kind)) ∧ Below w.heap.size w w') := remIdx_any A n cap ds w hD
 clear hD
 generalize ds.any (fun d => remB d.kind) = x at *
 go_enter Tryz.func90, Tryz.ntmps90
 go_wp2_with fail
 refine IX.out.mono ?_
 rintro e w2 ⟨j, rfl, hj, hb2⟩
 clear IX
 go_wp2_with fail
 go_ret
 exact ⟨by rw [hj.out]; rfl, hb2⟩
def ringV (ds : List Dv) (ls : List Lk) : Int := if netV ds ls = 0 then (if ds.any (fun d => remB d.kind) then 1 else 0) else netV ds ls
theorem ringV_zero {ds : List Dv} {ls : List Lk} (h : ringV ds ls = 0) : netV ds ls = 0 ∧ ∀ d ∈ ds, d.kind = 1 ∨ d.kind = 2 := by
 unfold ringV at h
 split at h
 ·rename_i hz
  refine ⟨hz, fun d hd => ?_⟩
  split at h
  ·cases h
  ·rename_i hn
   by_cases h1 : d.kind = 1
   ·exact Or.inl h1
   by_cases h2 : d.kind = 2
   ·exact Or.inr h2
   refine absurd (List.any_eq_true.2 ⟨d, hd, ?_⟩) hn
   unfold remB
   simp [h1, h2]
 ·rename_i hz
  exact absurd h hz
theorem ringCheck_any (A B : Option Addr) (cap cap' : Nat) (ds : List Dv) (ls : List Lk) (w : World) (hD : Hid (Devs w.heap.size w (.slice A ds.length cap) ds)) (hL : Hid (Links w.heap.size w (.slice B ls.length cap') ls)) :
  Calls Tryz.prog 50 #[.agg #[.slice A ds.length cap, .slice B ls.length cap']] w fun e w' => e = .returned (.int .i64 (ringV ds ls)) ∧ Below w.heap.size w w' := by
 have D0 := Below.alN (Below.refl w.heap.size w) (.cells #[.slice A ds.length cap, .slice B ls.length cap'] 25)
 have B0 := box2_new w (.slice A ds.length cap) (.slice B ls.length cap') 25
 have CK : Hid (∀ W, Below w.heap.size w W -> Calls Tryz.prog 29 #[.agg #[.slice A ds.length cap, .slice B ls.length cap']] W fun e w' => e = .returned (.int .i64 (netV ds ls)) ∧ Below W.heap.size W w') := fun W h => net_any _ _ ds ls W ((hD.out.below h).mono h.size) ((hL.out.below h).mono h.size)
 have RH : Hid (∀ W, Below w.heap.size w W -> Calls Tryz.prog 90 #[.slice A ds.length cap, .func (.func 91) #[] #[]] W fun e w' => e = .returned (.bool (ds.any (fun d => remB d.kind))) ∧ Below W.heap.size W w') := fun W h => remHas_any A _ cap ds W ((hD.out.below h).mono h.size)
 have HV : Hid (ringV ds ls = if netV ds ls = 0 then (if ds.any (fun d => remB d.kind) then 1 else 0) else netV ds ls) := rfl
 generalize ringV ds ls = rv at *
 generalize netV ds ls = nv at *
 generalize ds.any (fun d => remB d.kind) = x at *
 clear hD hL
 obtain ⟨_, q0, q1, _⟩ := id B0
 go_enter Tryz.func50, Tryz.ntmps50
 go_wp2_with fail
 refine (CK.out _ D0).mono ?_
 rintro e w1 ⟨rfl, hb1⟩
 have D1 := chnN hb1 D0
 have B1 : Box2 w1 w.heap.size (.slice A ds.length cap) (.slice B ls.length cap') := B0.below hb1 B0.1
 clear hb1 B0 D0 q0 q1 CK
 obtain ⟨_, q0, q1, _⟩ := id B1
 by_cases hn : nv = 0
 ·have hv := HV.out
  rw [if_pos hn] at hv
  have HV2 : Hid (rv = if x = true then 1 else 0) := hv
  clear HV hv
  subst hn
  go_wp2_with fail
  refine (RH.out _ D1).mono ?_
  rintro e w2 ⟨rfl, hb2⟩
  have D2 := chnN hb2 D1
  clear hb2 B1 D1 q0 q1 RH
  cases x
  ·go_wp2_with fail
   go_ret
   exact ⟨by rw [HV2.out]; rfl, D2⟩
  ·go_wp2_with fail
   go_ret
   exact ⟨by rw [HV2.out]; rfl, D2⟩
 ·have hz1 : (nv == 0) = false := by simpa using hn
  have hv := HV.out
  rw [if_neg hn] at hv
  have HV2 : Hid (rv = nv) := hv
  clear HV hv
  have HNZ : Hid (¬ nv = 0) := hn
  clear hn
  go_wp2_with fail
  all_goals first | exact absurd (by assumption) HNZ.out | skip
  all_goals
   go_ret
   exact ⟨by rw [HV2.out]; first | rfl | simp, D1⟩
abbrev prV (a b : Int) : Value := .agg #[.int .i64 a, .int .i64 b]
def cellsP (xs : List (Int × Int)) : List Value := xs.flatMap fun p => [.int .i64 p.1, .int .i64 p.2]
theorem cellsP_cons (p : Int × Int) (l : List (Int × Int)) : cellsP (p :: l) = .int .i64 p.1 :: .int .i64 p.2 :: cellsP l := rfl
theorem cellsP_append (a b : List (Int × Int)) : cellsP (a ++ b) = cellsP a ++ cellsP b := by simp [cellsP]
theorem cellsP_at : ∀ (xs : List (Int × Int)) (k : Nat) (p : Int × Int), xs[k]? = some p -> (cellsP xs)[k * 2]? = some (.int .i64 p.1) ∧ (cellsP xs)[k * 2 + 1]? = some (.int .i64 p.2)
 | [], k, p, h => by simp at h
 | x :: l, 0, p, h => by
   obtain rfl : x = p := by simpa using h
   exact ⟨rfl, rfl⟩
 | x :: l, k + 1, p, h => by
   have ih := cellsP_at l k p (by simpa using h)
   rw [cellsP_cons, show (k + 1) * 2 = k * 2 + 1 + 1 by omega, show k * 2 + 1 + 1 + 1 = (k * 2 + 1) + 1 + 1 by omega]
   exact ih
def Prs (base : Nat) (w : World) (v : Value) (xs : List (Int × Int)) : Prop :=
 ∃ A cap, v = .slice A xs.length cap ∧ xs.length <= cap ∧ cap <= maxLen ∧ (xs ≠ [] -> ∃ b o, A = some ⟨b, o, none⟩ ∧ b < base ∧ ∀ k p, xs[k]? = some p -> w.cell? ⟨b, o + k * 2, none⟩ = some (.int .i64 p.1) ∧ w.cell? ⟨b, o + k * 2 + 1, none⟩ = some (.int .i64 p.2))
theorem Prs.below {base : Nat} {w w' : World} {v : Value} {xs : List (Int × Int)} (h : Prs base w v xs) (hb : Below base w w') : Prs base w' v xs := by
 obtain ⟨A, cap, e, h1, h2, h3⟩ := h
 refine ⟨A, cap, e, h1, h2, fun hn => ?_⟩
 obtain ⟨b, o, ea, hl, hr⟩ := h3 hn
 refine ⟨b, o, ea, hl, fun k p hk => ?_⟩
 obtain ⟨c0, c1⟩ := hr k p hk
 exact ⟨(hb.cell (p := ⟨b, _, none⟩) hl).trans c0, (hb.cell (p := ⟨b, _, none⟩) hl).trans c1⟩
theorem Prs.mono {base base' : Nat} {w : World} {v : Value} {xs : List (Int × Int)} (h : Prs base w v xs) (hb : base <= base') : Prs base' w v xs := by
 obtain ⟨A, cap, e, h1, h2, h3⟩ := h
 refine ⟨A, cap, e, h1, h2, fun hn => ?_⟩
 obtain ⟨b, o, ea, hl, hr⟩ := h3 hn
 exact ⟨b, o, ea, by omega, hr⟩
theorem Prs.own {base : Nat} {w : World} {t : TypeId} {v : Value} {xs : List (Int × Int)} (h : w.ownsRow base t 2 v xs.length (cellsP xs)) : Prs w.heap.size w v xs := by
 have hh := h
 obtain ⟨hl, hc⟩ := h
 rcases hc with ⟨rfl, h0⟩ | ⟨g, cap, cur, rfl, hb, hg, hn, hcap, hs, ht⟩
 ·exact ⟨none, 0, by rw [h0], by omega, by unfold maxLen; omega, fun hn => absurd (List.length_eq_zero_iff.1 h0) hn⟩
 ·refine ⟨_, cap, rfl, hn, hcap, fun _ => ⟨g, 0, rfl, (Array.getElem?_eq_some_iff.1 hg).1, fun k p hk => ?_⟩⟩
  obtain ⟨c0, c1⟩ := cellsP_at xs k p hk
  have e0 := hh.cells (g := g) rfl _ _ c0
  have e1 := hh.cells (g := g) rfl _ _ c1
  rw [Addr.add_lit] at e0 e1
  exact ⟨e0, e1⟩
theorem Tryz.uPairs : Tryz.prog.underlying 94 = some (.slice 97) := by kernel_rfl
theorem Tryz.infoPair : (Tryz.prog.info? 97).map (fun i => (i.zero, i.size, i.bytes)) = some (some (.agg #[.int .i64 0, .int .i64 0]), 2, 16) := by kernel_rfl
theorem pair_eq (a b c d : Int) (w : World) : (binOp .eql 97 (prV a b) (prV c d)).run Tryz.prog w = .ok (.bool ((a == c) && (b == d))) w := by
 obtain ⟨i, hi⟩ : ∃ i, Tryz.prog.info? 3 = some i := by
  have h : (Tryz.prog.info? 3).isSome = true := by kernel_rfl
  exact Option.isSome_iff_exists.1 h
 rw [run_eql_struct, show (10000 : Nat) = 9998 + 1 + 1 from rfl, run_equalIn_array w (9998 + 1) _ _ Tryz.underlying97 hi, nInt, show List.range 2 = [0, 1] from rfl]
 have p0 : ∀ (x y : Int) (w : World), (part 3 #[.int .i64 x, .int .i64 y] (0 * 1)).run Tryz.prog w = .ok (.int .i64 x) w := fun _ _ _ => by kernel_rfl
 have p1 : ∀ (x y : Int) (w : World), (part 3 #[.int .i64 x, .int .i64 y] 1).run Tryz.prog w = .ok (.int .i64 y) w := fun _ _ _ => by kernel_rfl
 have q : ∀ (x y : Int) (w : World), (Op.equalIn 9999 3 (.int .i64 x) (.int .i64 y)).run Tryz.prog w = .ok (x == y) w := fun x y w => run_equalIn_int w 9998 3 .i64 .i64 x y Tryz.underlying3
 simp only [Op.eqItems, Sem.run_bind, p0, Result.andThen_ok, q]
 cases h1 : (a == c) <;> cases h2 : (b == d) <;> simp [p1, q, h2]
theorem any_takeP {xs : List (Int × Int)} {k : Nat} {p q : Int × Int} (h : xs[k]? = some p) : (xs.take (k + 1)).any (fun x => (q.1 == x.1) && (q.2 == x.2)) = ((xs.take k).any (fun x => (q.1 == x.1) && (q.2 == x.2)) || ((q.1 == p.1) && (q.2 == p.2))) := by
 obtain ⟨hk, e⟩ := List.getElem?_eq_some_iff.1 h
 rw [List.take_succ_eq_append_getElem hk, e]
 simp
def hasP (xs : List (Int × Int)) (q : Int × Int) : Bool := xs.any (fun x => (q.1 == x.1) && (q.2 == x.2))
theorem pairIdx_any (v : Value) (xs : List (Int × Int)) (a b : Int) (w : World) (hP : Hid (Prs w.heap.size w v xs)) :
  Calls Tryz.prog 72 #[v, prV a b] w fun e w' => ∃ j : Int, e = .returned (.int .i64 j) ∧ Hid (decide (0 <= j) = hasP xs (a, b)) ∧ Below w.heap.size w w' := by
 obtain ⟨A, cap, rfl, h1, h2, _⟩ := id hP.out
 unfold maxLen at h2
 generalize hres : hasP xs (a, b) = res
 have HR : Hid (hasP xs (a, b) = res) := hres
 clear hres
 have D0 := Below.alN (Below.refl w.heap.size w) (.cells #[.int .i64 a, .int .i64 b] 97)
 have B0 := box2_new w (.int .i64 a) (.int .i64 b) 97
 go_enter Tryz.func72, Tryz.ntmps72
 go_wp2_with fail
 go_loopw [8] (fun i wr => ∃ k : Nat, i = .int .i64 (k : Int) ∧ k <= xs.length ∧ Below w.heap.size w wr ∧ Box2 wr w.heap.size (.int .i64 a) (.int .i64 b) ∧ Hid ((xs.take k).any (fun x => (a == x.1) && (b == x.2)) = false)) (fun i _ => xs.length - (intOf i).toNat)
 case atStart => exact ⟨0, rfl, by omega, D0, B0, rfl⟩
 case round =>
  clear D0 B0
  obtain ⟨k, rfl, hk, D1, B1, hno⟩ := hrel
  by_cases hlt : k < xs.length
  ·obtain ⟨p, hxk⟩ : ∃ p, xs[k]? = some p := ⟨_, List.getElem?_eq_getElem hlt⟩
   obtain ⟨A', cap', e, _, _, h3⟩ := hP.out.below D1
   cases e
   obtain ⟨g, o, rfl, hg, hc⟩ := h3 (fun e => by subst e; simp at hxk)
   obtain ⟨c0, c1⟩ := hc k p hxk
   have PE := fun w => pair_eq a b p.1 p.2 w
   have HT : Hid ((xs.take (k + 1)).any (fun x => (a == x.1) && (b == x.2)) = ((xs.take k).any (fun x => (a == x.1) && (b == x.2)) || ((a == p.1) && (b == p.2)))) := any_takeP (q := (a, b)) hxk
   have HM : Hid (((a == p.1) && (b == p.2)) = true -> hasP xs (a, b) = true) := fun h => List.any_eq_true.2 ⟨p, List.mem_of_getElem? hxk, h⟩
   have k1 : (0 : Int) <= (k : Int) := by omega
   have k2 : (k : Int) < (xs.length : Int) := by omega
   obtain ⟨_, q0, q1, _⟩ := id B1
   clear hxk hc h3 hP
   generalize ((a == p.1) && (b == p.2)) = y at *
   generalize p.1 = px at *
   generalize p.2 = py at *
   cases y
   ·have HV : Hid ((xs.take (k + 1)).any (fun x => (a == x.1) && (b == x.2)) = false) := by
     show _ = _
     rw [HT.out, hno.out]
     rfl
    clear HT HM hno
    go_wp2_with fail
    go_quiet (fail)
    go_wp2_with fail
    go_roundw
    case rel => exact ⟨k + 1, by go_num, by omega, belowNN D1 _, B1, HV⟩
    case measure => simp [intOf]; omega
   ·have HV : Hid (res = true) := by
     show _ = _
     rw [<- HR.out, HM.out rfl]
    clear HT HM hno
    go_wp2_with fail
    go_quiet (fail)
    go_wp2_with fail
    go_ret
    exact ⟨_, rfl, (by show _ = _; rw [HV.out]; simp), belowNN D1 _⟩
  ·have HV : Hid (res = false) := by
    show _ = _
    rw [<- HR.out]
    have := hno.out
    rw [show k = xs.length by omega, List.take_length] at this
    exact this
   go_wp2_with fail
   go_ret
   exact ⟨_, rfl, (by show _ = _; rw [HV.out]; simp), D1⟩
theorem pairHas_any (v : Value) (xs : List (Int × Int)) (a b : Int) (w : World) (hP : Prs w.heap.size w v xs) :
  Calls Tryz.prog 34 #[v, prV a b] w fun e w' => e = .returned (.bool (hasP xs (a, b))) ∧ Below w.heap.size w w' := by
 have D0 := Below.alN (Below.refl w.heap.size w) (.cells #[.int .i64 a, .int .i64 b] 97)
 have IX : Hid (∀ W, Below w.heap.size w W -> Calls Tryz.prog 72 #[v, prV a b] W fun e w' => ∃ j : Int, e = .returned (.int .i64 j) ∧ Hid (decide (0 <= j) = hasP xs (a, b)) ∧ Below W.heap.size W w') := fun W h => pairIdx_any v xs a b W ((hP.below h).mono h.size)
 obtain ⟨A, cap, rfl, _, _, _⟩ := hP
 generalize hasP xs (a, b) = x at *
 go_enter Tryz.func34, Tryz.ntmps34
 go_wp2_with fail
 refine (IX.out _ D0).mono ?_
 rintro e w2 ⟨j, rfl, hj, hb2⟩
 have D2 := chnN hb2 D0
 clear IX
 go_wp2_with fail
 go_ret
 exact ⟨by rw [hj.out]; rfl, D2⟩
theorem app_pairs {base : Nat} {w : World} {v : Value} {xs : List (Int × Int)} {tb : Nat} {a b c d : Int} (ty : TypeId) (h : w.ownsRow base 97 2 v xs.length (cellsP xs)) (c0 : w.cell? ⟨tb, 0, none⟩ = some (.int .i64 a)) (c1 : w.cell? ⟨tb, 1, none⟩ = some (.int .i64 b)) (c2 : w.cell? ⟨tb, 2, none⟩ = some (.int .i64 c)) (c3 : w.cell? ⟨tb, 3, none⟩ = some (.int .i64 d)) (hs : xs.length <= 1099511627776) (hb : base <= w.heap.size) :
  ∃ v' w', (Builtin.append_ #[94, 94] ty #[v, .slice (some ⟨tb, 0, none⟩) 2 2]).run Tryz.prog w = .ok v' w' ∧ w'.ownsRow base 97 2 v' (xs ++ [(a, b), (c, d)]).length (cellsP (xs ++ [(a, b), (c, d)])) ∧ w.grownBy w' v.ownBlock := by
 obtain ⟨i0, hi, hz0, hz1, hz2⟩ := info_parts Tryz.infoPair
 obtain ⟨v', w', hr, h4, h5, _⟩ := run_append_own (P := Tryz.prog) w base 94 ty 97 i0 _ 2 16 Tryz.uPairs hi hz0 hz1 hz2 rfl (by decide) v xs.length (cellsP xs) h ⟨tb, 0, none⟩ 2 2 (cellsP [(a, b), (c, d)]) rfl (fun j u hj => by
   rw [Addr.add_lit, Nat.zero_add]
   match j, hj with
   | 0, hj => obtain rfl := Option.some.inj hj; exact c0
   | 1, hj => obtain rfl := Option.some.inj hj; exact c1
   | 2, hj => obtain rfl := Option.some.inj hj; exact c2
   | 3, hj => obtain rfl := Option.some.inj hj; exact c3) (fun u hu => by
     simp only [cellsP, List.flatMap_cons, List.flatMap_nil, List.append_nil, List.cons_append, List.nil_append, List.mem_cons, List.not_mem_nil, or_false] at hu
     rcases hu with rfl | rfl | rfl | rfl <;> rfl) (by unfold maxLen; omega) (by omega) hb
 rw [List.length_append, cellsP_append]
 exact ⟨v', w', hr, h4, h5⟩
theorem Below.app2 {B base : Nat} {w0 w w' : World} {t : TypeId} {s n : Nat} {v : Value} {cs : List Value} (h : Below B w0 w) (ho : w.ownsRow base t s v n cs) (hg : w.grownBy w' v.ownBlock) (hB : B <= base) (hb : base <= w.heap.size) : Below B w0 w' :=
 h.grown hg (by omega) (fun k e => by have := (ho.lt k e).1; omega)
theorem append_run2 {P : Program} {w w' : World} {ops : Array Oper} {rest : List Oper} {o : Oper} {a : Act} {Q : Exit -> Act -> World -> Prop} (hgd : o.guard = none) (s x : Operand) (t : TypeId)
  (ho : o.op = .call { callee := .builtin .append, args := #[s, x], argTypes := #[t, t] }) {v x' v' : Value} (hs : a.eval s = v) (hx : a.eval x = x') (hr : (Builtin.append_ #[t, t] o.type #[v, x']).run P w = .ok v' w')
  (h : wpList P ops Q rest (a.put o.dst v') w') : wpList P ops Q (o :: rest) a w := by
 refine wpList_plain hgd fun K hK => ?_
 unfold Oper.wp execOp
 simp only [ho, resolve, invoke, builtin, Sem.run_bind, Sem.run_pure, Result.andThen_ok, List.map_toArray, List.map_cons, List.map_nil, hs, hx, hr]
 exact hK _ _ h
theorem inN (n lo hi : Int) (w : World) : Calls Tryz.prog 8 #[.int .i64 n, .int .i64 lo, .int .i64 hi] w fun e w' => e = .returned (.bool (decide (lo <= n) && decide (n <= hi))) ∧ w' = w := by
 by_cases h : lo <= n
 ·go_enter Tryz.func8, Tryz.ntmps8
  go_wp2_with fail
  go_ret
  exact ⟨by simp [h], rfl⟩
 ·have h' : decide (lo <= n) = false := by simp; omega
  go_enter Tryz.func8, Tryz.ntmps8
  go_wp2_with fail
  go_ret
  exact ⟨by simp, rfl⟩
theorem rports_any (k : Int) (w : World) : Calls Tryz.prog 19 #[.int .i64 k] w fun e w' => e = .returned (.int .i64 (portsV k)) ∧ Below w.heap.size w w' := by
 have IN : Hid (∀ w, Calls Tryz.prog 8 #[.int .i64 k, .int .i64 1, .int .i64 5] w fun e w' => e = .returned (.bool (decide (1 <= k) && decide (k <= 5))) ∧ w' = w) := fun w => inN k 1 5 w
 by_cases h : 1 <= k ∧ k <= 5
 ·rw [show (decide (1 <= k) && decide (k <= 5)) = true by simp [h]] at IN
  have hk : k = 1 ∨ k = 2 ∨ k = 3 ∨ k = 4 ∨ k = 5 := by omega
  clear h
  rcases hk with rfl | rfl | rfl | rfl | rfl
  all_goals
   go_enter Tryz.func19, Tryz.ntmps19
   go_wp2_with fail
   refine (IN.out _).mono ?_
   rintro e w1 ⟨rfl, rfl⟩
   go_wp2_with fail
   go_ret
   exact ⟨rfl, Below.alN (Below.refl _ _) _⟩
 ·rw [show (decide (1 <= k) && decide (k <= 5)) = false by
   rw [Bool.eq_false_iff]
   simp only [ne_eq, Bool.and_eq_true, decide_eq_true_eq]
   exact h] at IN
  have e : portsV k = 0 := by
   unfold portsV
   rw [if_neg (by omega), if_neg (by omega), if_neg (by omega)]
  rw [e]
  clear h e
  go_enter Tryz.func19, Tryz.ntmps19
  go_wp2_with fail
  refine (IN.out _).mono ?_
  rintro e w1 ⟨rfl, rfl⟩
  go_wp2_with fail
  go_ret
  exact ⟨rfl, Below.refl _ _⟩
theorem rpeer_any (vd : Value) (A : Option Addr) (n cap : Nat) (ls : List Lk) (d p : Int) (w : World) (hL : Hid (Links w.heap.size w (.slice A n cap) ls)) :
  Calls Tryz.prog 35 #[.agg #[vd, .slice A n cap], .agg #[.int .i64 d, .int .i64 p]] w fun e w' => e = .returned (.tuple #[placeV (peerF ls d p), .bool (peerF ls d p).isSome]) ∧ Below w.heap.size w w' := by
 obtain ⟨rfl, hc, hm⟩ := hL.out.len
 unfold maxLen at hm
 have D1 := Below.alN (Below.refl w.heap.size w) (.cells #[vd, .slice A ls.length cap] 25)
 have D2 := Below.alN D1 (.cells #[.int .i64 d, .int .i64 p] 27)
 have D3 := Below.alN D2 (.cells #[.int .i64 0, .int .i64 0] 27)
 have B1 := ((box2_new w vd (.slice A ls.length cap) 25).alloc (.cells #[.int .i64 d, .int .i64 p] 27)).alloc (.cells #[.int .i64 0, .int .i64 0] 27)
 have B2 := (box2_new (w.alloc (.cells #[vd, .slice A ls.length cap] 25)) (.int .i64 d) (.int .i64 p) 27).alloc (.cells #[.int .i64 0, .int .i64 0] 27)
 have B3 := box2_new ((w.alloc (.cells #[vd, .slice A ls.length cap] 25)).alloc (.cells #[.int .i64 d, .int .i64 p] 27)) (.int .i64 0) (.int .i64 0) 27
 simp only [World.size_alloc] at B2 B3
 go_enter Tryz.func35, Tryz.ntmps35
 go_wp2_with fail
 go_loopw [6] (fun i wr => ∃ k : Nat, i = .int .i64 (k : Int) ∧ k <= ls.length ∧ Below w.heap.size w wr ∧ Box2 wr w.heap.size vd (.slice A ls.length cap) ∧ Box2 wr (w.heap.size + 1) (.int .i64 d) (.int .i64 p) ∧ Box2 wr (w.heap.size + 1 + 1) (.int .i64 0) (.int .i64 0) ∧ Hid (peerF ls d p = peerF (ls.drop k) d p)) (fun i _ => ls.length - (intOf i).toNat)
 case atStart => exact ⟨0, rfl, by omega, D3, B1, B2, B3, rfl⟩
 case round =>
  clear B1 B2 B3 D1 D2 D3
  obtain ⟨k, rfl, hk, D1, B1, B2, B3, hl⟩ := hrel
  obtain ⟨n1, e0, e1, _⟩ := id B1
  by_cases hlt : k < ls.length
  ·obtain ⟨l, hlk⟩ : ∃ l, ls[k]? = some l := ⟨_, List.getElem?_eq_getElem hlt⟩
   obtain ⟨b, o, rfl, hb, c0, c1, c2, c3⟩ := (hL.out.below D1).at hlk
   have Hd : Hid (peerF (ls.drop k) d p = (endOf l d p).or (peerF (ls.drop (k + 1)) d p)) := peerF_drop hlk d p
   have D2 := Below.alN D1 (.cells #[.int .i64 l.a, .int .i64 l.p, .int .i64 l.b, .int .i64 l.q] 96)
   have E1 := B1.alloc (.cells #[.int .i64 l.a, .int .i64 l.p, .int .i64 l.b, .int .i64 l.q] 96)
   have E2 := B2.alloc (.cells #[.int .i64 l.a, .int .i64 l.p, .int .i64 l.b, .int .i64 l.q] 96)
   have E3 := B3.alloc (.cells #[.int .i64 l.a, .int .i64 l.p, .int .i64 l.b, .int .i64 l.q] 96)
   have k1 : (0 : Int) <= (k : Int) := by omega
   have k2 : (k : Int) < (ls.length : Int) := by omega
   have lw := D1.size
   unfold endOf at Hd
   clear hlk hL
   generalize l.a = la at *
   generalize l.p = lp at *
   generalize l.b = lb at *
   generalize l.q = lq at *
   obtain ⟨n2, f0, f1, f2, f3⟩ := id E2
   obtain ⟨n3, g0, g1, g2, g3⟩ := id E3
   obtain ⟨m2, h0, h1, _⟩ := id B2
   cases x0 : ((la == d) && (lp == p))
   ·cases x1 : ((lb == d) && (lq == p))
    ·have Hn : Hid (peerF ls d p = peerF (ls.drop (k + 1)) d p) := by show _ = _; rw [hl.out, Hd.out, x0, x1]; rfl
     clear hl Hd
     cases y0 : (la == d)
     ·cases y1 : (lb == d)
      ·clear x0 x1
       go_wp2_with fail
       go_roundw
       case rel => exact ⟨k + 1, by go_num, by omega, D2, E1, E2, E3, Hn⟩
       case measure => simp [intOf]; omega
      ·have y2 : (lq == p) = false := by rw [y1] at x1; simpa using x1
       clear x0 x1
       go_wp2_with fail
       go_roundw
       case rel => exact ⟨k + 1, by go_num, by omega, D2, E1, E2, E3, Hn⟩
       case measure => simp [intOf]; omega
     ·have y3 : (lp == p) = false := by rw [y0] at x0; simpa using x0
      cases y1 : (lb == d)
      ·clear x0 x1
       go_wp2_with fail
       go_roundw
       case rel => exact ⟨k + 1, by go_num, by omega, D2, E1, E2, E3, Hn⟩
       case measure => simp [intOf]; omega
      ·have y2 : (lq == p) = false := by rw [y1] at x1; simpa using x1
       clear x0 x1
       go_wp2_with fail
       go_roundw
       case rel => exact ⟨k + 1, by go_num, by omega, D2, E1, E2, E3, Hn⟩
       case measure => simp [intOf]; omega
    ·have Hn : Hid (peerF ls d p = some (la, lp)) := by show _ = _; rw [hl.out, Hd.out, x0, x1]; rfl
     clear hl Hd
     obtain ⟨y1, y2⟩ : (lb == d) = true ∧ (lq == p) = true := by simpa using x1
     cases y0 : (la == d)
     ·clear x0 x1
      go_wp2_with fail
      refine bodyPost_ret (v := .tuple #[.agg #[.int .i64 la, .int .i64 lp], .bool true]) (by simp [results, Tryz.results35, go_sem, g0, g1]) rfl ⟨by rw [Hn.out]; rfl, ?_⟩
      exact (D2.setCell (by simp; omega) _).setCell (by simp; omega) _
     ·have y3 : (lp == p) = false := by rw [y0] at x0; simpa using x0
      clear x0 x1
      go_wp2_with fail
      refine bodyPost_ret (v := .tuple #[.agg #[.int .i64 la, .int .i64 lp], .bool true]) (by simp [results, Tryz.results35, go_sem, g0, g1]) rfl ⟨by rw [Hn.out]; rfl, ?_⟩
      exact (D2.setCell (by simp; omega) _).setCell (by simp; omega) _
   ·have Hn : Hid (peerF ls d p = some (lb, lq)) := by show _ = _; rw [hl.out, Hd.out, x0]; rfl
    clear hl Hd
    obtain ⟨y1, y2⟩ : (la == d) = true ∧ (lp == p) = true := by simpa using x0
    clear x0
    go_wp2_with fail
    refine bodyPost_ret (v := .tuple #[.agg #[.int .i64 lb, .int .i64 lq], .bool true]) (by simp [results, Tryz.results35, go_sem, g0, g1]) rfl ⟨by rw [Hn.out]; rfl, ?_⟩
    exact (D2.setCell (by simp; omega) _).setCell (by simp; omega) _
  ·have Hn : Hid (peerF ls d p = none) := by show _ = _; rw [hl.out, List.drop_eq_nil_of_le (by omega)]; rfl
   obtain ⟨n3, g0, g1, g2, g3⟩ := id B3
   go_wp2_with fail
   refine bodyPost_ret (v := .tuple #[.agg #[.int .i64 0, .int .i64 0], .bool false]) (by simp [results, Tryz.results35, go_sem, g0, g1]) rfl ⟨by rw [Hn.out]; rfl, ?_⟩
   exact (D1.setCell (by simp; omega) _).setCell (by simp; omega) _
theorem rdev_1 (nm : ByteArray) (ad : Int) (pl : Nat) (Ab Ar At : Option Addr) (nb cb nr cr nt ct : Nat) (c : Int) (w : World)
  (RT : Hid (∀ W, Below w.heap.size w W -> Calls Tryz.prog 71 #[.slice At nt ct] W fun e w' => e = .returned (.int .i64 c) ∧ Below W.heap.size W w')) :
  Calls Tryz.prog 33 #[.agg #[.string nm, .int .i64 1, .int .i64 ad, .int .u8 (pl : Int), .slice Ab nb cb, .slice Ar nr cr, .slice At nt ct]] w fun e w' => e = .returned (.int .i64 (if (!(decide (0 <= ad) && decide (ad <= 15))) || (decide (0 < pl) != false) then 1 else if 3 < nb then 2 else if 0 < nb then 1 else if (decide (0 < nr)) || (decide (0 < nt)) then 1 else if 8 < nr then 2 else c)) ∧ Below w.heap.size w w' := by
 have D0 := Below.alN (Below.refl w.heap.size w) (.cells #[.string nm, .int .i64 1, .int .i64 ad, .int .u8 (pl : Int), .slice Ab nb cb, .slice Ar nr cr, .slice At nt ct] 56)
 have I0 : Hid (∀ w, Calls Tryz.prog 8 #[.int .i64 1, .int .i64 1, .int .i64 5] w fun e w' => e = .returned (.bool true) ∧ w' = w) := fun w => inN 1 1 5 w
 have V0 := seven_new w (.string nm) (.int .i64 1) (.int .i64 ad) (.int .u8 (pl : Int)) (.slice Ab nb cb) (.slice Ar nr cr) (.slice At nt ct) 56
 obtain ⟨_, q0, q1, q2, q3, q4, q5, q6⟩ := id V0
 have I1 : Hid (∀ w, Calls Tryz.prog 8 #[.int .i64 ad, .int .i64 0, .int .i64 15] w fun e w' => e = .returned (.bool (decide (0 <= ad) && decide (ad <= 15))) ∧ w' = w) := fun w => inN ad 0 15 w
 generalize (decide (0 <= ad) && decide (ad <= 15)) = x0 at *
 cases x0
 ·go_enter Tryz.func33, Tryz.ntmps33
  go_wp2_with (first | (go_at_call_of 8 (Value.int .i64 1); refine (I0.out _).mono ?_; rintro e w' ⟨rfl, rfl⟩) | (go_at_call_of 8 (Value.int .i64 ad); refine (I1.out _).mono ?_; rintro e w' ⟨rfl, rfl⟩))
  go_ret
  first | exact ⟨rfl, D0⟩ | exact ⟨by simp, D0⟩
 cases p0 : decide (0 < pl)
 ·have p1 : decide ((0 : Int) < (pl : Int)) = false := by rw [<- p0]; simp
  by_cases n3 : 3 < nb
  ·have u3 : decide ((3 : Int) < (nb : Int)) = true := by simp; omega
   go_enter Tryz.func33, Tryz.ntmps33
   go_wp2_with (first | (go_at_call_of 8 (Value.int .i64 1); refine (I0.out _).mono ?_; rintro e w' ⟨rfl, rfl⟩) | (go_at_call_of 8 (Value.int .i64 ad); refine (I1.out _).mono ?_; rintro e w' ⟨rfl, rfl⟩))
   go_ret
   first | exact ⟨rfl, D0⟩ | exact ⟨by simp, D0⟩
  have u3 : decide ((3 : Int) < (nb : Int)) = false := by simp; omega
  by_cases n0 : 0 < nb
  ·have u0 : ((nb : Int) == 0) = false := by simp; omega
   go_enter Tryz.func33, Tryz.ntmps33
   go_wp2_with (first | (go_at_call_of 8 (Value.int .i64 1); refine (I0.out _).mono ?_; rintro e w' ⟨rfl, rfl⟩) | (go_at_call_of 8 (Value.int .i64 ad); refine (I1.out _).mono ?_; rintro e w' ⟨rfl, rfl⟩))
   go_ret
   first | exact ⟨rfl, D0⟩ | exact ⟨by simp, D0⟩
  obtain rfl : nb = 0 := by omega
  clear n3 u3 n0
  by_cases r0 : 0 < nr
  ·have v0 : decide ((0 : Int) < (nr : Int)) = true := by simp; omega
   go_enter Tryz.func33, Tryz.ntmps33
   go_wp2_with (first | (go_at_call_of 8 (Value.int .i64 1); refine (I0.out _).mono ?_; rintro e w' ⟨rfl, rfl⟩) | (go_at_call_of 8 (Value.int .i64 ad); refine (I1.out _).mono ?_; rintro e w' ⟨rfl, rfl⟩))
   go_loopw [4] (fun i wr => i = .int .i64 0 ∧ wr = (w.alloc (.cells #[.string nm, .int .i64 1, .int .i64 ad, .int .u8 (pl : Int), .slice Ab 0 cb, .slice Ar nr cr, .slice At nt ct] 56))) (fun i _ => 0)
   case atStart => exact ⟨rfl, rfl⟩
   case round =>
    obtain ⟨rfl, rfl⟩ := hrel
    go_wp2_with fail
    go_ret
    first | exact ⟨rfl, D0⟩ | exact ⟨by simp, D0⟩
  have v0 : decide ((0 : Int) < (nr : Int)) = false := by simp; omega
  by_cases t0 : 0 < nt
  ·have z0 : decide ((0 : Int) < (nt : Int)) = true := by simp; omega
   go_enter Tryz.func33, Tryz.ntmps33
   go_wp2_with (first | (go_at_call_of 8 (Value.int .i64 1); refine (I0.out _).mono ?_; rintro e w' ⟨rfl, rfl⟩) | (go_at_call_of 8 (Value.int .i64 ad); refine (I1.out _).mono ?_; rintro e w' ⟨rfl, rfl⟩))
   go_loopw [4] (fun i wr => i = .int .i64 0 ∧ wr = (w.alloc (.cells #[.string nm, .int .i64 1, .int .i64 ad, .int .u8 (pl : Int), .slice Ab 0 cb, .slice Ar nr cr, .slice At nt ct] 56))) (fun i _ => 0)
   case atStart => exact ⟨rfl, rfl⟩
   case round =>
    obtain ⟨rfl, rfl⟩ := hrel
    go_wp2_with fail
    go_ret
    first | exact ⟨rfl, D0⟩ | exact ⟨by simp, D0⟩
  have z0 : decide ((0 : Int) < (nt : Int)) = false := by simp; omega
  have r8 : ¬ 8 < nr := by omega
  have v8 : decide ((8 : Int) < (nr : Int)) = false := by simp; omega
  go_enter Tryz.func33, Tryz.ntmps33
  go_wp2_with (first | (go_at_call_of 8 (Value.int .i64 1); refine (I0.out _).mono ?_; rintro e w' ⟨rfl, rfl⟩) | (go_at_call_of 8 (Value.int .i64 ad); refine (I1.out _).mono ?_; rintro e w' ⟨rfl, rfl⟩))
  go_loopw [4] (fun i wr => i = .int .i64 0 ∧ wr = (w.alloc (.cells #[.string nm, .int .i64 1, .int .i64 ad, .int .u8 (pl : Int), .slice Ab 0 cb, .slice Ar nr cr, .slice At nt ct] 56))) (fun i _ => 0)
  case atStart => exact ⟨rfl, rfl⟩
  case round =>
   obtain ⟨rfl, rfl⟩ := hrel
   go_wp2_with fail
   refine (RT.out _ D0).mono ?_
   rintro e w2 ⟨rfl, hb2⟩
   have D2 := chnN hb2 D0
   go_wp2_with fail
   go_ret
   first | exact ⟨rfl, D2⟩ | exact ⟨by simp, D2⟩
 ·have p1 : decide ((0 : Int) < (pl : Int)) = true := by rw [<- p0]; simp
  go_enter Tryz.func33, Tryz.ntmps33
  go_wp2_with (first | (go_at_call_of 8 (Value.int .i64 1); refine (I0.out _).mono ?_; rintro e w' ⟨rfl, rfl⟩) | (go_at_call_of 8 (Value.int .i64 ad); refine (I1.out _).mono ?_; rintro e w' ⟨rfl, rfl⟩))
  go_ret
  first | exact ⟨rfl, D0⟩ | exact ⟨by simp, D0⟩
theorem rdev_2 (nm : ByteArray) (ad : Int) (pl : Nat) (Ab Ar At : Option Addr) (nb cb nr cr nt ct : Nat) (c : Int) (w : World)
  (RT : Hid (∀ W, Below w.heap.size w W -> Calls Tryz.prog 71 #[.slice At nt ct] W fun e w' => e = .returned (.int .i64 c) ∧ Below W.heap.size W w')) :
  Calls Tryz.prog 33 #[.agg #[.string nm, .int .i64 2, .int .i64 ad, .int .u8 (pl : Int), .slice Ab nb cb, .slice Ar nr cr, .slice At nt ct]] w fun e w' => e = .returned (.int .i64 (if (!(ad == 0)) || (decide (0 < pl) != false) then 1 else if 3 < nb then 2 else if 0 < nb then 1 else if false then 1 else if 8 < nr then 2 else c)) ∧ Below w.heap.size w w' := by
 have D0 := Below.alN (Below.refl w.heap.size w) (.cells #[.string nm, .int .i64 2, .int .i64 ad, .int .u8 (pl : Int), .slice Ab nb cb, .slice Ar nr cr, .slice At nt ct] 56)
 have I0 : Hid (∀ w, Calls Tryz.prog 8 #[.int .i64 2, .int .i64 1, .int .i64 5] w fun e w' => e = .returned (.bool true) ∧ w' = w) := fun w => inN 2 1 5 w
 have V0 := seven_new w (.string nm) (.int .i64 2) (.int .i64 ad) (.int .u8 (pl : Int)) (.slice Ab nb cb) (.slice Ar nr cr) (.slice At nt ct) 56
 obtain ⟨_, q0, q1, q2, q3, q4, q5, q6⟩ := id V0
 cases a0 : (ad == 0)
 ·have a1 : (ad != 0) = true := by simp [bne, a0]
  go_enter Tryz.func33, Tryz.ntmps33
  go_wp2_with (go_at_call_of 8 (Value.int .i64 2); refine (I0.out _).mono ?_; rintro e w' ⟨rfl, rfl⟩)
  go_ret
  first | exact ⟨rfl, D0⟩ | exact ⟨by simp, D0⟩
 have a1 : (ad != 0) = false := by simp [bne, a0]
 cases p0 : decide (0 < pl)
 ·have p1 : decide ((0 : Int) < (pl : Int)) = false := by rw [<- p0]; simp
  by_cases n3 : 3 < nb
  ·have u3 : decide ((3 : Int) < (nb : Int)) = true := by simp; omega
   go_enter Tryz.func33, Tryz.ntmps33
   go_wp2_with (go_at_call_of 8 (Value.int .i64 2); refine (I0.out _).mono ?_; rintro e w' ⟨rfl, rfl⟩)
   go_ret
   first | exact ⟨rfl, D0⟩ | exact ⟨by simp, D0⟩
  have u3 : decide ((3 : Int) < (nb : Int)) = false := by simp; omega
  by_cases n0 : 0 < nb
  ·have u0 : ((nb : Int) == 0) = false := by simp; omega
   go_enter Tryz.func33, Tryz.ntmps33
   go_wp2_with (go_at_call_of 8 (Value.int .i64 2); refine (I0.out _).mono ?_; rintro e w' ⟨rfl, rfl⟩)
   go_ret
   first | exact ⟨rfl, D0⟩ | exact ⟨by simp, D0⟩
  obtain rfl : nb = 0 := by omega
  clear n3 u3 n0
  by_cases r0 : 0 < nr
  ·have v0 : decide ((0 : Int) < (nr : Int)) = true := by simp; omega
   by_cases r8 : 8 < nr
   ·have v8 : decide ((8 : Int) < (nr : Int)) = true := by simp; omega
    by_cases t0 : 0 < nt
    ·have z0 : decide ((0 : Int) < (nt : Int)) = true := by simp; omega
     go_enter Tryz.func33, Tryz.ntmps33
     go_wp2_with (go_at_call_of 8 (Value.int .i64 2); refine (I0.out _).mono ?_; rintro e w' ⟨rfl, rfl⟩)
     go_loopw [4] (fun i wr => i = .int .i64 0 ∧ wr = (w.alloc (.cells #[.string nm, .int .i64 2, .int .i64 ad, .int .u8 (pl : Int), .slice Ab 0 cb, .slice Ar nr cr, .slice At nt ct] 56))) (fun i _ => 0)
     case atStart => exact ⟨rfl, rfl⟩
     case round =>
      obtain ⟨rfl, rfl⟩ := hrel
      go_wp2_with fail
      go_ret
      first | exact ⟨rfl, D0⟩ | exact ⟨by simp, D0⟩
    ·have z0 : decide ((0 : Int) < (nt : Int)) = false := by simp; omega
     go_enter Tryz.func33, Tryz.ntmps33
     go_wp2_with (go_at_call_of 8 (Value.int .i64 2); refine (I0.out _).mono ?_; rintro e w' ⟨rfl, rfl⟩)
     go_loopw [4] (fun i wr => i = .int .i64 0 ∧ wr = (w.alloc (.cells #[.string nm, .int .i64 2, .int .i64 ad, .int .u8 (pl : Int), .slice Ab 0 cb, .slice Ar nr cr, .slice At nt ct] 56))) (fun i _ => 0)
     case atStart => exact ⟨rfl, rfl⟩
     case round =>
      obtain ⟨rfl, rfl⟩ := hrel
      go_wp2_with fail
      go_ret
      first | exact ⟨rfl, D0⟩ | exact ⟨by simp, D0⟩
   have v8 : decide ((8 : Int) < (nr : Int)) = false := by simp; omega
   by_cases t0 : 0 < nt
   ·have z0 : decide ((0 : Int) < (nt : Int)) = true := by simp; omega
    go_enter Tryz.func33, Tryz.ntmps33
    go_wp2_with (go_at_call_of 8 (Value.int .i64 2); refine (I0.out _).mono ?_; rintro e w' ⟨rfl, rfl⟩)
    go_loopw [4] (fun i wr => i = .int .i64 0 ∧ wr = (w.alloc (.cells #[.string nm, .int .i64 2, .int .i64 ad, .int .u8 (pl : Int), .slice Ab 0 cb, .slice Ar nr cr, .slice At nt ct] 56))) (fun i _ => 0)
    case atStart => exact ⟨rfl, rfl⟩
    case round =>
     obtain ⟨rfl, rfl⟩ := hrel
     go_wp2_with fail
     refine (RT.out _ D0).mono ?_
     rintro e w2 ⟨rfl, hb2⟩
     have D2 := chnN hb2 D0
     go_wp2_with fail
     go_ret
     first | exact ⟨rfl, D2⟩ | exact ⟨by simp, D2⟩
   ·have z0 : decide ((0 : Int) < (nt : Int)) = false := by simp; omega
    go_enter Tryz.func33, Tryz.ntmps33
    go_wp2_with (go_at_call_of 8 (Value.int .i64 2); refine (I0.out _).mono ?_; rintro e w' ⟨rfl, rfl⟩)
    go_loopw [4] (fun i wr => i = .int .i64 0 ∧ wr = (w.alloc (.cells #[.string nm, .int .i64 2, .int .i64 ad, .int .u8 (pl : Int), .slice Ab 0 cb, .slice Ar nr cr, .slice At nt ct] 56))) (fun i _ => 0)
    case atStart => exact ⟨rfl, rfl⟩
    case round =>
     obtain ⟨rfl, rfl⟩ := hrel
     go_wp2_with fail
     refine (RT.out _ D0).mono ?_
     rintro e w2 ⟨rfl, hb2⟩
     have D2 := chnN hb2 D0
     go_wp2_with fail
     go_ret
     first | exact ⟨rfl, D2⟩ | exact ⟨by simp, D2⟩
  ·have v0 : decide ((0 : Int) < (nr : Int)) = false := by simp; omega
   have r8 : ¬ 8 < nr := by omega
   have v8 : decide ((8 : Int) < (nr : Int)) = false := by simp; omega
   by_cases t0 : 0 < nt
   ·have z0 : decide ((0 : Int) < (nt : Int)) = true := by simp; omega
    go_enter Tryz.func33, Tryz.ntmps33
    go_wp2_with (go_at_call_of 8 (Value.int .i64 2); refine (I0.out _).mono ?_; rintro e w' ⟨rfl, rfl⟩)
    go_loopw [4] (fun i wr => i = .int .i64 0 ∧ wr = (w.alloc (.cells #[.string nm, .int .i64 2, .int .i64 ad, .int .u8 (pl : Int), .slice Ab 0 cb, .slice Ar nr cr, .slice At nt ct] 56))) (fun i _ => 0)
    case atStart => exact ⟨rfl, rfl⟩
    case round =>
     obtain ⟨rfl, rfl⟩ := hrel
     go_wp2_with fail
     refine (RT.out _ D0).mono ?_
     rintro e w2 ⟨rfl, hb2⟩
     have D2 := chnN hb2 D0
     go_wp2_with fail
     go_ret
     first | exact ⟨rfl, D2⟩ | exact ⟨by simp, D2⟩
   ·have z0 : decide ((0 : Int) < (nt : Int)) = false := by simp; omega
    go_enter Tryz.func33, Tryz.ntmps33
    go_wp2_with (go_at_call_of 8 (Value.int .i64 2); refine (I0.out _).mono ?_; rintro e w' ⟨rfl, rfl⟩)
    go_loopw [4] (fun i wr => i = .int .i64 0 ∧ wr = (w.alloc (.cells #[.string nm, .int .i64 2, .int .i64 ad, .int .u8 (pl : Int), .slice Ab 0 cb, .slice Ar nr cr, .slice At nt ct] 56))) (fun i _ => 0)
    case atStart => exact ⟨rfl, rfl⟩
    case round =>
     obtain ⟨rfl, rfl⟩ := hrel
     go_wp2_with fail
     refine (RT.out _ D0).mono ?_
     rintro e w2 ⟨rfl, hb2⟩
     have D2 := chnN hb2 D0
     go_wp2_with fail
     go_ret
     first | exact ⟨rfl, D2⟩ | exact ⟨by simp, D2⟩
 ·have p1 : decide ((0 : Int) < (pl : Int)) = true := by rw [<- p0]; simp
  go_enter Tryz.func33, Tryz.ntmps33
  go_wp2_with (go_at_call_of 8 (Value.int .i64 2); refine (I0.out _).mono ?_; rintro e w' ⟨rfl, rfl⟩)
  go_ret
  first | exact ⟨rfl, D0⟩ | exact ⟨by simp, D0⟩
theorem rdev_3 (nm : ByteArray) (ad : Int) (pl : Nat) (Ab Ar At : Option Addr) (nb cb nr cr nt ct : Nat) (c : Int) (w : World)
  (RT : Hid (∀ W, Below w.heap.size w W -> Calls Tryz.prog 71 #[.slice At nt ct] W fun e w' => e = .returned (.int .i64 c) ∧ Below W.heap.size W w')) :
  Calls Tryz.prog 33 #[.agg #[.string nm, .int .i64 3, .int .i64 ad, .int .u8 (pl : Int), .slice Ab nb cb, .slice Ar nr cr, .slice At nt ct]] w fun e w' => e = .returned (.int .i64 (if (!(ad == 0)) || (decide (0 < pl) != false) then 1 else if 3 < nb then 2 else if 0 < nb then 1 else if decide (0 < nt) then 1 else if 8 < nr then 2 else c)) ∧ Below w.heap.size w w' := by
 have D0 := Below.alN (Below.refl w.heap.size w) (.cells #[.string nm, .int .i64 3, .int .i64 ad, .int .u8 (pl : Int), .slice Ab nb cb, .slice Ar nr cr, .slice At nt ct] 56)
 have I0 : Hid (∀ w, Calls Tryz.prog 8 #[.int .i64 3, .int .i64 1, .int .i64 5] w fun e w' => e = .returned (.bool true) ∧ w' = w) := fun w => inN 3 1 5 w
 have V0 := seven_new w (.string nm) (.int .i64 3) (.int .i64 ad) (.int .u8 (pl : Int)) (.slice Ab nb cb) (.slice Ar nr cr) (.slice At nt ct) 56
 obtain ⟨_, q0, q1, q2, q3, q4, q5, q6⟩ := id V0
 cases a0 : (ad == 0)
 ·have a1 : (ad != 0) = true := by simp [bne, a0]
  go_enter Tryz.func33, Tryz.ntmps33
  go_wp2_with (go_at_call_of 8 (Value.int .i64 3); refine (I0.out _).mono ?_; rintro e w' ⟨rfl, rfl⟩)
  go_ret
  first | exact ⟨rfl, D0⟩ | exact ⟨by simp, D0⟩
 have a1 : (ad != 0) = false := by simp [bne, a0]
 cases p0 : decide (0 < pl)
 ·have p1 : decide ((0 : Int) < (pl : Int)) = false := by rw [<- p0]; simp
  by_cases n3 : 3 < nb
  ·have u3 : decide ((3 : Int) < (nb : Int)) = true := by simp; omega
   go_enter Tryz.func33, Tryz.ntmps33
   go_wp2_with (go_at_call_of 8 (Value.int .i64 3); refine (I0.out _).mono ?_; rintro e w' ⟨rfl, rfl⟩)
   go_ret
   first | exact ⟨rfl, D0⟩ | exact ⟨by simp, D0⟩
  have u3 : decide ((3 : Int) < (nb : Int)) = false := by simp; omega
  by_cases n0 : 0 < nb
  ·have u0 : ((nb : Int) == 0) = false := by simp; omega
   go_enter Tryz.func33, Tryz.ntmps33
   go_wp2_with (go_at_call_of 8 (Value.int .i64 3); refine (I0.out _).mono ?_; rintro e w' ⟨rfl, rfl⟩)
   go_ret
   first | exact ⟨rfl, D0⟩ | exact ⟨by simp, D0⟩
  obtain rfl : nb = 0 := by omega
  clear n3 u3 n0
  by_cases r0 : 0 < nr
  ·have v0 : decide ((0 : Int) < (nr : Int)) = true := by simp; omega
   by_cases t0 : 0 < nt
   ·have z0 : decide ((0 : Int) < (nt : Int)) = true := by simp; omega
    go_enter Tryz.func33, Tryz.ntmps33
    go_wp2_with (go_at_call_of 8 (Value.int .i64 3); refine (I0.out _).mono ?_; rintro e w' ⟨rfl, rfl⟩)
    go_loopw [4] (fun i wr => i = .int .i64 0 ∧ wr = (w.alloc (.cells #[.string nm, .int .i64 3, .int .i64 ad, .int .u8 (pl : Int), .slice Ab 0 cb, .slice Ar nr cr, .slice At nt ct] 56))) (fun i _ => 0)
    case atStart => exact ⟨rfl, rfl⟩
    case round =>
     obtain ⟨rfl, rfl⟩ := hrel
     go_wp2_with fail
     go_ret
     first | exact ⟨rfl, D0⟩ | exact ⟨by simp, D0⟩
   have z0 : decide ((0 : Int) < (nt : Int)) = false := by simp; omega
   by_cases r8 : 8 < nr
   ·have v8 : decide ((8 : Int) < (nr : Int)) = true := by simp; omega
    go_enter Tryz.func33, Tryz.ntmps33
    go_wp2_with (go_at_call_of 8 (Value.int .i64 3); refine (I0.out _).mono ?_; rintro e w' ⟨rfl, rfl⟩)
    go_loopw [4] (fun i wr => i = .int .i64 0 ∧ wr = (w.alloc (.cells #[.string nm, .int .i64 3, .int .i64 ad, .int .u8 (pl : Int), .slice Ab 0 cb, .slice Ar nr cr, .slice At nt ct] 56))) (fun i _ => 0)
    case atStart => exact ⟨rfl, rfl⟩
    case round =>
     obtain ⟨rfl, rfl⟩ := hrel
     go_wp2_with fail
     go_ret
     first | exact ⟨rfl, D0⟩ | exact ⟨by simp, D0⟩
   have v8 : decide ((8 : Int) < (nr : Int)) = false := by simp; omega
   go_enter Tryz.func33, Tryz.ntmps33
   go_wp2_with (go_at_call_of 8 (Value.int .i64 3); refine (I0.out _).mono ?_; rintro e w' ⟨rfl, rfl⟩)
   go_loopw [4] (fun i wr => i = .int .i64 0 ∧ wr = (w.alloc (.cells #[.string nm, .int .i64 3, .int .i64 ad, .int .u8 (pl : Int), .slice Ab 0 cb, .slice Ar nr cr, .slice At nt ct] 56))) (fun i _ => 0)
   case atStart => exact ⟨rfl, rfl⟩
   case round =>
    obtain ⟨rfl, rfl⟩ := hrel
    go_wp2_with fail
    refine (RT.out _ D0).mono ?_
    rintro e w2 ⟨rfl, hb2⟩
    have D2 := chnN hb2 D0
    go_wp2_with fail
    go_ret
    first | exact ⟨rfl, D2⟩ | exact ⟨by simp, D2⟩
  ·have v0 : decide ((0 : Int) < (nr : Int)) = false := by simp; omega
   by_cases t0 : 0 < nt
   ·have z0 : decide ((0 : Int) < (nt : Int)) = true := by simp; omega
    go_enter Tryz.func33, Tryz.ntmps33
    go_wp2_with (go_at_call_of 8 (Value.int .i64 3); refine (I0.out _).mono ?_; rintro e w' ⟨rfl, rfl⟩)
    go_loopw [4] (fun i wr => i = .int .i64 0 ∧ wr = (w.alloc (.cells #[.string nm, .int .i64 3, .int .i64 ad, .int .u8 (pl : Int), .slice Ab 0 cb, .slice Ar nr cr, .slice At nt ct] 56))) (fun i _ => 0)
    case atStart => exact ⟨rfl, rfl⟩
    case round =>
     obtain ⟨rfl, rfl⟩ := hrel
     go_wp2_with fail
     go_ret
     first | exact ⟨rfl, D0⟩ | exact ⟨by simp, D0⟩
   have z0 : decide ((0 : Int) < (nt : Int)) = false := by simp; omega
   have r8 : ¬ 8 < nr := by omega
   have v8 : decide ((8 : Int) < (nr : Int)) = false := by simp; omega
   go_enter Tryz.func33, Tryz.ntmps33
   go_wp2_with (go_at_call_of 8 (Value.int .i64 3); refine (I0.out _).mono ?_; rintro e w' ⟨rfl, rfl⟩)
   go_loopw [4] (fun i wr => i = .int .i64 0 ∧ wr = (w.alloc (.cells #[.string nm, .int .i64 3, .int .i64 ad, .int .u8 (pl : Int), .slice Ab 0 cb, .slice Ar nr cr, .slice At nt ct] 56))) (fun i _ => 0)
   case atStart => exact ⟨rfl, rfl⟩
   case round =>
    obtain ⟨rfl, rfl⟩ := hrel
    go_wp2_with fail
    refine (RT.out _ D0).mono ?_
    rintro e w2 ⟨rfl, hb2⟩
    have D2 := chnN hb2 D0
    go_wp2_with fail
    go_ret
    first | exact ⟨rfl, D2⟩ | exact ⟨by simp, D2⟩
 ·have p1 : decide ((0 : Int) < (pl : Int)) = true := by rw [<- p0]; simp
  go_enter Tryz.func33, Tryz.ntmps33
  go_wp2_with (go_at_call_of 8 (Value.int .i64 3); refine (I0.out _).mono ?_; rintro e w' ⟨rfl, rfl⟩)
  go_ret
  first | exact ⟨rfl, D0⟩ | exact ⟨by simp, D0⟩
theorem rdev_4 (nm : ByteArray) (ad : Int) (pl : Nat) (Ab Ar At : Option Addr) (nb cb nr cr nt ct : Nat) (c : Int) (w : World)
  (RT : Hid (∀ W, Below w.heap.size w W -> Calls Tryz.prog 71 #[.slice At nt ct] W fun e w' => e = .returned (.int .i64 c) ∧ Below W.heap.size W w')) :
  Calls Tryz.prog 33 #[.agg #[.string nm, .int .i64 4, .int .i64 ad, .int .u8 (pl : Int), .slice Ab nb cb, .slice Ar nr cr, .slice At nt ct]] w fun e w' => e = .returned (.int .i64 (if (!(decide (0 <= ad) && decide (ad <= 15))) || (decide (0 < pl) != true) then 1 else if 3 < nb then 2 else if 0 < nb then 1 else if (decide (0 < nr)) || (decide (0 < nt)) then 1 else if 8 < nr then 2 else c)) ∧ Below w.heap.size w w' := by
 have D0 := Below.alN (Below.refl w.heap.size w) (.cells #[.string nm, .int .i64 4, .int .i64 ad, .int .u8 (pl : Int), .slice Ab nb cb, .slice Ar nr cr, .slice At nt ct] 56)
 have I0 : Hid (∀ w, Calls Tryz.prog 8 #[.int .i64 4, .int .i64 1, .int .i64 5] w fun e w' => e = .returned (.bool true) ∧ w' = w) := fun w => inN 4 1 5 w
 have V0 := seven_new w (.string nm) (.int .i64 4) (.int .i64 ad) (.int .u8 (pl : Int)) (.slice Ab nb cb) (.slice Ar nr cr) (.slice At nt ct) 56
 obtain ⟨_, q0, q1, q2, q3, q4, q5, q6⟩ := id V0
 have I1 : Hid (∀ w, Calls Tryz.prog 8 #[.int .i64 ad, .int .i64 0, .int .i64 15] w fun e w' => e = .returned (.bool (decide (0 <= ad) && decide (ad <= 15))) ∧ w' = w) := fun w => inN ad 0 15 w
 generalize (decide (0 <= ad) && decide (ad <= 15)) = x0 at *
 cases x0
 ·go_enter Tryz.func33, Tryz.ntmps33
  go_wp2_with (first | (go_at_call_of 8 (Value.int .i64 4); refine (I0.out _).mono ?_; rintro e w' ⟨rfl, rfl⟩) | (go_at_call_of 8 (Value.int .i64 ad); refine (I1.out _).mono ?_; rintro e w' ⟨rfl, rfl⟩))
  go_ret
  first | exact ⟨rfl, D0⟩ | exact ⟨by simp, D0⟩
 cases p0 : decide (0 < pl)
 ·have p1 : decide ((0 : Int) < (pl : Int)) = false := by rw [<- p0]; simp
  go_enter Tryz.func33, Tryz.ntmps33
  go_wp2_with (first | (go_at_call_of 8 (Value.int .i64 4); refine (I0.out _).mono ?_; rintro e w' ⟨rfl, rfl⟩) | (go_at_call_of 8 (Value.int .i64 ad); refine (I1.out _).mono ?_; rintro e w' ⟨rfl, rfl⟩))
  go_ret
  first | exact ⟨rfl, D0⟩ | exact ⟨by simp, D0⟩
 ·have p1 : decide ((0 : Int) < (pl : Int)) = true := by rw [<- p0]; simp
  by_cases n3 : 3 < nb
  ·have u3 : decide ((3 : Int) < (nb : Int)) = true := by simp; omega
   go_enter Tryz.func33, Tryz.ntmps33
   go_wp2_with (first | (go_at_call_of 8 (Value.int .i64 4); refine (I0.out _).mono ?_; rintro e w' ⟨rfl, rfl⟩) | (go_at_call_of 8 (Value.int .i64 ad); refine (I1.out _).mono ?_; rintro e w' ⟨rfl, rfl⟩))
   go_ret
   first | exact ⟨rfl, D0⟩ | exact ⟨by simp, D0⟩
  have u3 : decide ((3 : Int) < (nb : Int)) = false := by simp; omega
  by_cases n0 : 0 < nb
  ·have u0 : ((nb : Int) == 0) = false := by simp; omega
   go_enter Tryz.func33, Tryz.ntmps33
   go_wp2_with (first | (go_at_call_of 8 (Value.int .i64 4); refine (I0.out _).mono ?_; rintro e w' ⟨rfl, rfl⟩) | (go_at_call_of 8 (Value.int .i64 ad); refine (I1.out _).mono ?_; rintro e w' ⟨rfl, rfl⟩))
   go_ret
   first | exact ⟨rfl, D0⟩ | exact ⟨by simp, D0⟩
  obtain rfl : nb = 0 := by omega
  clear n3 u3 n0
  by_cases r0 : 0 < nr
  ·have v0 : decide ((0 : Int) < (nr : Int)) = true := by simp; omega
   go_enter Tryz.func33, Tryz.ntmps33
   go_wp2_with (first | (go_at_call_of 8 (Value.int .i64 4); refine (I0.out _).mono ?_; rintro e w' ⟨rfl, rfl⟩) | (go_at_call_of 8 (Value.int .i64 ad); refine (I1.out _).mono ?_; rintro e w' ⟨rfl, rfl⟩))
   go_loopw [4] (fun i wr => i = .int .i64 0 ∧ wr = (w.alloc (.cells #[.string nm, .int .i64 4, .int .i64 ad, .int .u8 (pl : Int), .slice Ab 0 cb, .slice Ar nr cr, .slice At nt ct] 56))) (fun i _ => 0)
   case atStart => exact ⟨rfl, rfl⟩
   case round =>
    obtain ⟨rfl, rfl⟩ := hrel
    go_wp2_with fail
    go_ret
    first | exact ⟨rfl, D0⟩ | exact ⟨by simp, D0⟩
  have v0 : decide ((0 : Int) < (nr : Int)) = false := by simp; omega
  by_cases t0 : 0 < nt
  ·have z0 : decide ((0 : Int) < (nt : Int)) = true := by simp; omega
   go_enter Tryz.func33, Tryz.ntmps33
   go_wp2_with (first | (go_at_call_of 8 (Value.int .i64 4); refine (I0.out _).mono ?_; rintro e w' ⟨rfl, rfl⟩) | (go_at_call_of 8 (Value.int .i64 ad); refine (I1.out _).mono ?_; rintro e w' ⟨rfl, rfl⟩))
   go_loopw [4] (fun i wr => i = .int .i64 0 ∧ wr = (w.alloc (.cells #[.string nm, .int .i64 4, .int .i64 ad, .int .u8 (pl : Int), .slice Ab 0 cb, .slice Ar nr cr, .slice At nt ct] 56))) (fun i _ => 0)
   case atStart => exact ⟨rfl, rfl⟩
   case round =>
    obtain ⟨rfl, rfl⟩ := hrel
    go_wp2_with fail
    go_ret
    first | exact ⟨rfl, D0⟩ | exact ⟨by simp, D0⟩
  have z0 : decide ((0 : Int) < (nt : Int)) = false := by simp; omega
  have r8 : ¬ 8 < nr := by omega
  have v8 : decide ((8 : Int) < (nr : Int)) = false := by simp; omega
  go_enter Tryz.func33, Tryz.ntmps33
  go_wp2_with (first | (go_at_call_of 8 (Value.int .i64 4); refine (I0.out _).mono ?_; rintro e w' ⟨rfl, rfl⟩) | (go_at_call_of 8 (Value.int .i64 ad); refine (I1.out _).mono ?_; rintro e w' ⟨rfl, rfl⟩))
  go_loopw [4] (fun i wr => i = .int .i64 0 ∧ wr = (w.alloc (.cells #[.string nm, .int .i64 4, .int .i64 ad, .int .u8 (pl : Int), .slice Ab 0 cb, .slice Ar nr cr, .slice At nt ct] 56))) (fun i _ => 0)
  case atStart => exact ⟨rfl, rfl⟩
  case round =>
   obtain ⟨rfl, rfl⟩ := hrel
   go_wp2_with fail
   refine (RT.out _ D0).mono ?_
   rintro e w2 ⟨rfl, hb2⟩
   have D2 := chnN hb2 D0
   go_wp2_with fail
   go_ret
   first | exact ⟨rfl, D2⟩ | exact ⟨by simp, D2⟩
theorem rdev_5 (nm : ByteArray) (ad : Int) (pl : Nat) (Ab Ar At : Option Addr) (bs : List Int) (cb nr cr nt ct : Nat) (c : Int) (w : World) (hcap : bs.length <= cb) (hmax : cb <= maxLen) (hB : Hid (SlAt w.heap.size w 1 IsI (.slice Ab bs.length cb) bs))
  (RT : Hid (∀ W, Below w.heap.size w W -> Calls Tryz.prog 71 #[.slice At nt ct] W fun e w' => e = .returned (.int .i64 c) ∧ Below W.heap.size W w')) :
  Calls Tryz.prog 33 #[.agg #[.string nm, .int .i64 5, .int .i64 ad, .int .u8 (pl : Int), .slice Ab bs.length cb, .slice Ar nr cr, .slice At nt ct]] w fun e w' => e = .returned (.int .i64 (if (!(decide (0 <= ad) && decide (ad <= 15))) || (decide (0 < pl) != false) then 1 else if 3 < bs.length then 2 else if bs.length = 0 then 1 else if backsFrom bs ad 0 = 1 then 1 else if (decide (0 < nr)) || (decide (0 < nt)) then 1 else c)) ∧ Below w.heap.size w w' := by
 unfold maxLen at hmax
 have D0 := Below.alN (Below.refl w.heap.size w) (.cells #[.string nm, .int .i64 5, .int .i64 ad, .int .u8 (pl : Int), .slice Ab bs.length cb, .slice Ar nr cr, .slice At nt ct] 56)
 have I0 : Hid (∀ w, Calls Tryz.prog 8 #[.int .i64 5, .int .i64 1, .int .i64 5] w fun e w' => e = .returned (.bool true) ∧ w' = w) := fun w => inN 5 1 5 w
 have V0 := seven_new w (.string nm) (.int .i64 5) (.int .i64 ad) (.int .u8 (pl : Int)) (.slice Ab bs.length cb) (.slice Ar nr cr) (.slice At nt ct) 56
 have I1 : Hid (∀ w, Calls Tryz.prog 8 #[.int .i64 ad, .int .i64 0, .int .i64 15] w fun e w' => e = .returned (.bool (decide (0 <= ad) && decide (ad <= 15))) ∧ w' = w) := fun w => inN ad 0 15 w
 obtain ⟨_, q0, q1, q2, q3, q4, q5, q6⟩ := id V0
 generalize (decide (0 <= ad) && decide (ad <= 15)) = x0 at *
 cases x0
 ·go_enter Tryz.func33, Tryz.ntmps33
  go_wp2_with (first | (go_at_call_of 8 (Value.int .i64 5); refine (I0.out _).mono ?_; rintro e w' ⟨rfl, rfl⟩) | (go_at_call_of 8 (Value.int .i64 ad); refine (I1.out _).mono ?_; rintro e w' ⟨rfl, rfl⟩))
  go_ret
  first | exact ⟨rfl, D0⟩ | exact ⟨by simp, D0⟩
 cases p0 : decide (0 < pl)
 ·have p1 : decide ((0 : Int) < (pl : Int)) = false := by rw [<- p0]; simp
  by_cases n3 : 3 < bs.length
  ·have u3 : decide ((3 : Int) < (bs.length : Int)) = true := by simp; omega
   go_enter Tryz.func33, Tryz.ntmps33
   go_wp2_with (first | (go_at_call_of 8 (Value.int .i64 5); refine (I0.out _).mono ?_; rintro e w' ⟨rfl, rfl⟩) | (go_at_call_of 8 (Value.int .i64 ad); refine (I1.out _).mono ?_; rintro e w' ⟨rfl, rfl⟩))
   go_ret
   first | exact ⟨rfl, D0⟩ | exact ⟨by simp, D0⟩
  have u3 : decide ((3 : Int) < (bs.length : Int)) = false := by simp; omega
  by_cases n0 : bs.length = 0
  ·have e := List.length_eq_zero_iff.1 n0
   subst e
   clear n0 n3 u3
   go_enter Tryz.func33, Tryz.ntmps33
   go_wp2_with (first | (go_at_call_of 8 (Value.int .i64 5); refine (I0.out _).mono ?_; rintro e w' ⟨rfl, rfl⟩) | (go_at_call_of 8 (Value.int .i64 ad); refine (I1.out _).mono ?_; rintro e w' ⟨rfl, rfl⟩))
   go_ret
   first | exact ⟨rfl, D0⟩ | exact ⟨by simp, D0⟩
  have u0 : ((bs.length : Int) == 0) = false := by simp; exact fun e => n0 (by rw [e]; rfl)
  have FIN : Hid ((if (!true) || (false != false) then (1 : Int) else if 3 < bs.length then 2 else if bs.length = 0 then 1 else if backsFrom bs ad 0 = 1 then 1 else if (decide (0 < nr)) || (decide (0 < nt)) then 1 else c) = if backsFrom bs ad 0 = 1 then 1 else if (decide (0 < nr)) || (decide (0 < nt)) then 1 else c) := by
   show _ = _
   rw [if_neg (by simp), if_neg n3, if_neg n0]
  rw [FIN.out]
  clear FIN n3 n0
  generalize hres : (if backsFrom bs ad 0 = 1 then (1 : Int) else if (decide (0 < nr)) || (decide (0 < nt)) then 1 else c) = res
  have HR : Hid (res = if backsFrom bs ad 0 = 1 then (1 : Int) else if (decide (0 < nr)) || (decide (0 < nt)) then 1 else c) := hres.symm
  clear hres
  go_enter Tryz.func33, Tryz.ntmps33
  go_wp2_with (first | (go_at_call_of 8 (Value.int .i64 5); refine (I0.out _).mono ?_; rintro e w' ⟨rfl, rfl⟩) | (go_at_call_of 8 (Value.int .i64 ad); refine (I1.out _).mono ?_; rintro e w' ⟨rfl, rfl⟩))
  clear I0 I1
  go_loopw [4] (fun i wr => ∃ k : Nat, i = .int .i64 (k : Int) ∧ k <= bs.length ∧ Below w.heap.size w wr ∧ Seven wr w.heap.size (.string nm) (.int .i64 5) (.int .i64 ad) (.int .u8 (pl : Int)) (.slice Ab bs.length cb) (.slice Ar nr cr) (.slice At nt ct) ∧ Hid (backsFrom bs ad 0 = backsFrom bs ad k)) (fun i _ => bs.length - (intOf i).toNat)
  case atStart => exact ⟨0, rfl, by omega, D0, V0, rfl⟩
  case round =>
   clear D0 V0 q0 q1 q2 q3 q4 q5 q6
   obtain ⟨k, rfl, hk, D1, V1, hl⟩ := hrel
   obtain ⟨lV, q0, q1, q2, q3, q4, q5, q6⟩ := id V1
   by_cases hlt : k < bs.length
   ·obtain ⟨x, hxk⟩ : ∃ x, bs[k]? = some x := ⟨_, List.getElem?_eq_getElem hlt⟩
    obtain ⟨b, o, rfl, hb, hcell⟩ := Ints.at (SlAt.below hB.out D1 (fun _ _ _ h => h)) hxk
    have cx := hcell k x hxk
    have IX : Hid (∀ w, Calls Tryz.prog 8 #[.int .i64 x, .int .i64 0, .int .i64 15] w fun e w' => e = .returned (.bool (decide (0 <= x) && decide (x <= 15))) ∧ w' = w) := fun w => inN x 0 15 w
    have Hd : Hid (backsFrom bs ad k = if (decide (0 <= x) && decide (x <= 15)) && !(x == ad) && !((bs.take k).any (fun y => y == x)) then backsFrom bs ad (k + 1) else 1) := backsFrom_at hxk
    have k1 : (0 : Int) <= (k : Int) := by omega
    have k2 : (k : Int) < (bs.length : Int) := by omega
    have HC : Hid (∀ j y, bs[j]? = some y -> wr.cell? ⟨b, o + j, none⟩ = some (.int .i64 y)) := hcell
    have HX : Hid (bs[k]? = some x) := hxk
    clear hcell hxk
    generalize (decide (0 <= x) && decide (x <= 15)) = y0 at *
    cases y0
    ·have hb1 : Hid (res = 1) := by show _ = _; rw [HR.out, hl.out, Hd.out]; simp
     clear HR Hd hl
     go_wp2_with fail
     go_quiet ((go_at_call 8; exact Calls.quiet_of_same (IX.out _)))
     go_wp2_with fail
     go_ret
     exact ⟨by rw [hb1.out]; rfl, belowNN D1 _⟩
    cases y1 : (x == ad)
    ·go_wp2_with fail
     go_quiet ((go_at_call 8; exact Calls.quiet_of_same (IX.out _)))
     go_wp2_with fail
     go_loopw [5] (fun i wr => ∃ j : Nat, i = .int .i64 (j : Int) ∧ j <= k ∧ Below w.heap.size w wr ∧ Seven wr w.heap.size (.string nm) (.int .i64 5) (.int .i64 ad) (.int .u8 (pl : Int)) (.slice (some ⟨b, o, none⟩) bs.length cb) (.slice Ar nr cr) (.slice At nt ct) ∧ Hid ((bs.take j).any (fun y => y == x) = false)) (fun i _ => k - (intOf i).toNat)
     case atStart => exact ⟨0, rfl, by omega, belowNN D1 _, V1.below (belowNN (Below.refl wr.heap.size wr) _) lV, rfl⟩
     case round =>
      clear D1 V1 q0 q1 q2 q3 q4 q5 q6 cx HC lV
      obtain ⟨j, rfl, hj, D1, V1, hno⟩ := hrel
      obtain ⟨lV, q0, q1, q2, q3, q4, q5, q6⟩ := id V1
      by_cases hjk : j < k
      ·obtain ⟨y, hyj⟩ : ∃ y, bs[j]? = some y := ⟨_, List.getElem?_eq_getElem (by omega)⟩
       obtain ⟨b', o', e', _, hcell⟩ := Ints.at (SlAt.below hB.out D1 (fun _ _ _ h => h)) hyj
       cases e'
       have cx := hcell k x HX.out
       have cy := hcell j y hyj
       have j1 : (0 : Int) <= (j : Int) := by omega
       have j2 : (j : Int) < (bs.length : Int) := by omega
       cases z0 : (y == x)
       ·have Hn : Hid ((bs.take (j + 1)).any (fun z => z == x) = false) := by show _ = _; rw [any_takeI hyj, hno.out, z0]; rfl
        clear hcell hyj hno
        go_wp2_with fail
        go_quiet (fail)
        go_wp2_with fail
        go_roundw
        case rel => exact ⟨j + 1, by go_num, by omega, belowNN D1 _, V1.below (belowNN (Below.refl wr.heap.size wr) _) lV, Hn⟩
        case measure => simp [intOf]; omega
       ·have hany : (bs.take k).any (fun z => z == x) = true := List.any_eq_true.2 ⟨y, List.mem_of_getElem? (i := j) (by rw [List.getElem?_take, if_pos hjk]; exact hyj), z0⟩
        have hb1 : Hid (res = 1) := by show _ = _; rw [HR.out, hl.out, Hd.out, y1, hany]; simp
        clear HR Hd hl hcell hyj hno hany
        go_wp2_with fail
        go_quiet (fail)
        go_wp2_with fail
        go_ret
        exact ⟨by rw [hb1.out]; rfl, belowNN D1 _⟩
      ·obtain rfl : j = k := by omega
       have Hn : Hid (backsFrom bs ad 0 = backsFrom bs ad (j + 1)) := by show _ = _; rw [hl.out, Hd.out, y1, hno.out]; simp
       clear hl Hd hno
       go_wp2_with fail
       go_roundw
       case rel => exact ⟨j + 1, by go_num, by omega, D1, V1, Hn⟩
       case measure => simp [intOf]; omega
    ·have hb1 : Hid (res = 1) := by show _ = _; rw [HR.out, hl.out, Hd.out, y1]; simp
     clear HR Hd hl
     go_wp2_with fail
     go_quiet ((go_at_call 8; exact Calls.quiet_of_same (IX.out _)))
     go_wp2_with fail
     go_ret
     exact ⟨by rw [hb1.out]; rfl, belowNN D1 _⟩
   ·have h0 : backsFrom bs ad 0 = 0 := by rw [hl.out, backsFrom_end (by omega)]
    clear hl
    by_cases r0 : 0 < nr
    ·have v0 : decide ((0 : Int) < (nr : Int)) = true := by simp; omega
     have hb1 : Hid (res = 1) := by show _ = _; rw [HR.out, h0]; simp [r0]
     clear HR h0
     go_wp2_with fail
     go_ret
     exact ⟨by rw [hb1.out]; rfl, D1⟩
    have v0 : decide ((0 : Int) < (nr : Int)) = false := by simp; omega
    by_cases t0 : 0 < nt
    ·have z0 : decide ((0 : Int) < (nt : Int)) = true := by simp; omega
     have hb1 : Hid (res = 1) := by show _ = _; rw [HR.out, h0]; simp [t0]
     clear HR h0
     go_wp2_with fail
     go_ret
     exact ⟨by rw [hb1.out]; rfl, D1⟩
    have z0 : decide ((0 : Int) < (nt : Int)) = false := by simp; omega
    have r8 : ¬ 8 < nr := by omega
    have v8 : decide ((8 : Int) < (nr : Int)) = false := by simp; omega
    have hb1 : Hid (res = c) := by show _ = _; rw [HR.out, h0]; simp [r0, t0]
    clear HR h0
    go_wp2_with fail
    refine (RT.out _ D1).mono ?_
    rintro e w2 ⟨rfl, hb2⟩
    have D2 := chnN hb2 D1
    go_wp2_with fail
    go_ret
    exact ⟨by rw [hb1.out]; rfl, D2⟩
 ·have p1 : decide ((0 : Int) < (pl : Int)) = true := by rw [<- p0]; simp
  go_enter Tryz.func33, Tryz.ntmps33
  go_wp2_with (first | (go_at_call_of 8 (Value.int .i64 5); refine (I0.out _).mono ?_; rintro e w' ⟨rfl, rfl⟩) | (go_at_call_of 8 (Value.int .i64 ad); refine (I1.out _).mono ?_; rintro e w' ⟨rfl, rfl⟩))
  go_ret
  first | exact ⟨rfl, D0⟩ | exact ⟨by simp, D0⟩
end Go.Proofs.YtppbfikimalojaaGreat
