/-
  XBA.
-/
import Derived.Test.YtlmmeppifkigeaaGreatXAZ
import Derived.Test.YtlmmeppifkigeaaGreatXAK
import Derived.Maps.AppendAt
import Derived.Deep.Heap
import Derived.OneCell
set_option maxHeartbeats 8000000
set_option maxRecDepth 100000
namespace Go.Proofs.YtlmmeppifkigeaaGreat
open Go.RowKit Go.Maps
section
variable {bR R MR most : Nat} {nsR : List Nd} {w : World}
theorem start_any (hR : Ar bR R MR 14 most w nsR) (A B : Option Addr) (cap cap' : Nat) (ds : List Dv) (ls : List Lk) (hz : Hid (netV ds ls = 0)) (hdv : Hid (∀ d ∈ ds, devC d = 0)) (hD : Hid (Devs bR w (.slice A ds.length cap) ds)) (hL : Hid (Links bR w (.slice B ls.length cap') ls)) :
  Calls Tryz.prog 27 #[.pointer (some ⟨R, 0, none⟩), .agg #[.slice A ds.length cap, .slice B ls.length cap']] w (HOut w bR R MR most nsR ds ls) := by
 have D4 : Below w.heap.size w (((w.alloc (.cells #[.slice A ds.length cap, .slice B ls.length cap'] 25)).alloc (.cells zeros40 100)).alloc (.cells zeros40 100)) := ((Below.refl _ w).alloc (Nat.le_refl _) _).alloc (by simp) _ |>.alloc (by simp; omega) _
 have G4 : Hs bR R MR most nsR w (.slice A ds.length cap) (.slice B ls.length cap') zeros40 nsR (((w.alloc (.cells #[.slice A ds.length cap, .slice B ls.length cap'] 25)).alloc (.cells zeros40 100)).alloc (.cells zeros40 100)) := ⟨hR.below D4, Ext.refl _, hR.kbelow D4, ((Bz.new w _ _ _ rfl).al _).al _, (Bz.new (w.alloc _) _ _ _ (by simp)).al _, Bz.new ((w.alloc _).alloc _) _ _ _ (by simp)⟩
 have I0 : Hid (HInv ds ls 0 nsR (fun _ _ => 0)) := hinv_start hR.wf
 obtain ⟨V, hV⟩ : ∃ V : Array Value -> List Nd -> World -> Prop, V = fun nx ns W => Hs bR R MR most nsR w (.slice A ds.length cap) (.slice B ls.length cap') nx ns W := ⟨_, rfl⟩
 have V4 : V zeros40 nsR (((w.alloc (.cells #[.slice A ds.length cap, .slice B ls.length cap'] 25)).alloc (.cells zeros40 100)).alloc (.cells zeros40 100)) := by rw [hV]; exact G4
 have KP : ∀ {nx : Array Value} {ns : List Nd} {W W' : World}, Below W.heap.size W W' -> V nx ns W -> V nx ns W' := fun {nx ns W W'} hb h => by rw [hV] at h ⊢; exact h.below hb
 have CN : Hid (∀ {nx : Array Value} {ns : List Nd} {W : World}, V nx ns W -> W.cell? ⟨w.heap.size, 0, none⟩ = some (.slice A ds.length cap) ∧ W.cell? ⟨w.heap.size, 1, none⟩ = some (.slice B ls.length cap')) := fun {nx ns W} h => by rw [hV] at h; exact ⟨h.bN.cell 0 _ rfl, h.bN.cell 1 _ rfl⟩
 have DEV : Hid (∀ {nx : Array Value} {ns : List Nd} {W : World} (k : Nat) (d : Dv), ds[k]? = some d -> V nx ns W -> ∃ b o Ab nb cb Ae nr cr At nt ct, A = some ⟨b, o, none⟩ ∧ W.cell? ⟨b, o + k * 7, none⟩ = some (.string d.name) ∧ W.cell? ⟨b, o + k * 7 + 1, none⟩ = some (.int .i64 d.kind) ∧ W.cell? ⟨b, o + k * 7 + 2, none⟩ = some (.int .i64 d.addr) ∧ W.cell? ⟨b, o + k * 7 + 3, none⟩ = some (.int .u8 (d.pool : Int)) ∧ W.cell? ⟨b, o + k * 7 + 4, none⟩ = some (.slice Ab nb cb) ∧ W.cell? ⟨b, o + k * 7 + 5, none⟩ = some (.slice Ae nr cr) ∧ W.cell? ⟨b, o + k * 7 + 6, none⟩ = some (.slice At nt ct)) := fun {nx ns W} k d hk h => by
  rw [hV] at h
  obtain ⟨b, o, vb, vr, vt, ea, hbb, s1, s2, s3, c0, c1, c2, c3, c4, c5, c6⟩ := hD.out.at hk
  have hbl := hR.kp_below h.kp
  have up : ∀ {j : Nat} {v : Value}, w.cell? ⟨b, j, none⟩ = some v -> W.cell? ⟨b, j, none⟩ = some v := fun {j v} hc => (hbl.cell (p := ⟨b, j, none⟩) hbb).trans hc
  obtain ⟨Ab, cb, rfl, q1⟩ := id s1
  obtain ⟨Ae, cr, rfl, q2⟩ := id s2
  obtain ⟨At, ct, rfl, q3⟩ := id s3
  exact ⟨b, o, Ab, _, cb, Ae, _, cr, At, _, ct, ea, up c0, up c1, up c2, up c3, up c4, up c5, up c6⟩
 have hd10 : ds.length <= 10 := (netV_links hz.out).1
 obtain ⟨_, hcap, hcm⟩ := hD.out.len
 unfold maxLen at hcm
 clear G4 D4
 obtain ⟨n0, n1⟩ := CN.out V4
 go_enter Tryz.func27, Tryz.ntmps27
 go_wp2_with fail
 go_loopw [16] (fun i wr => ∃ (k : Nat) (nx : Array Value) (ns : List Nd), i = .int .i64 (k : Int) ∧ k <= ds.length ∧ V nx ns wr ∧ Hid (∃ sx, SetsV nx sx ∧ HInv ds ls k ns sx ∧ nx.all (·.oneCell') = true ∧ ns.length <= nsR.length + 44 * k)) (fun i _ => ds.length - (intOf i).toNat)
 case atStart => exact ⟨0, zeros40, nsR, rfl, by omega, V4, ⟨_, setsV_zero, I0.out, zeros_one, by omega⟩⟩
 case round =>
  clear V4 n0 n1 I0
  obtain ⟨k, nx, ns, rfl, hk, V1, J1⟩ := hrel
  by_cases hlt : k < ds.length
  rotate_left
  ·have hke : k = ds.length := by omega
   have GG := V1
   rw [hV] at GG
   have BX : Hid (Bz wr (w.heap.size + 1 + 1) nx 100) := GG.bx
   have BZ : Hid (Bz wr (w.heap.size + 1) zeros40 100) := GG.bz
   have NX : Hid (nx.size = 40 ∧ nx.all (·.oneCell') = true) := by
    obtain ⟨sx, q1, _, q3, _⟩ := J1.out
    exact ⟨q1.1, q3⟩
   have hF : ∀ i, i ≠ w.heap.size + 1 -> (wr.setRow (w.heap.size + 1) nx).heap[i]? = wr.heap[i]? := fun i hi => by rw [setRow_heap' wr _ zeros40 nx _ GG.bz i, if_neg (fun e => hi e.symm)]
   have L := (GG.ar.outBox GG.bz (by decide) (by decide)).out
   have n1 : R ≠ w.heap.size + 1 := fun e => L.not (Or.inl e.symm)
   have n2 : MR ≠ w.heap.size + 1 := fun e => L.not (Or.inr (Or.inr (Or.inl e.symm)))
   have n3 : rowOf wr R ≠ w.heap.size + 1 := fun e => L.ne e.symm
   have er : rowOf (wr.setRow (w.heap.size + 1) nx) R = rowOf wr R := rowOf_same (hF R n1)
   have BR : Hid (Bz (wr.setRow (w.heap.size + 1) nx) (w.heap.size + 1) nx 100) := by
    show _ = _
    rw [setRow_heap' wr _ zeros40 nx _ GG.bz, if_pos rfl]
   have FF : Hid (HOut w bR R MR most nsR ds ls (.returned (.tuple #[.agg nx, .int .i64 0])) (wr.setRow (w.heap.size + 1) nx)) := by
    have kp2 : Kp (ca bR R MR 14 most) w (wr.setRow (w.heap.size + 1) nx) := by
     refine ⟨GG.kp.os, GG.kp.tape, GG.kp.output, by simp [World.setRow]; exact GG.kp.size, fun i hi hm hr => (hF i (by omega)).trans (GG.kp.blk i hi hm hr), ?_, fun j hj => ?_⟩
     ·rw [show rowOf (wr.setRow (w.heap.size + 1) nx) (ca bR R MR 14 most).a = rowOf wr (ca bR R MR 14 most).a from er]
      exact GG.kp.row
     ·rw [<- GG.kp.post j hj]
      exact cellB (hF R n1)
    refine ⟨nx, 0, ns, rfl, NX.out, GG.ar.same (hF _ n1) (hF _ n2) (hF _ n3), kp2, GG.ext, fun i c t hb ht => ((hR.outBox hb ht.1 ht.2.1).kp kp2).blk, ?_, Or.inl ⟨rfl, ?_⟩⟩
    ·obtain ⟨sx, _, _, _, q4⟩ := J1.out
     rw [hke] at q4
     exact q4
    ·obtain ⟨sx, q1, q2, _⟩ := J1.out
     rw [hke] at q2
     exact ⟨sx, q1, q2⟩
   have HN : Hid ((Tryz.prog.info? 100).map (·.size) = some nx.size) := iSets' NX.out.1
   have HZ : Hid (zeros40.size = nx.size) := by show _ = _; rw [NX.out.1]; rfl
   clear GG hF L n1 n2 n3 er hV KP CN DEV J1 hR hD hL hdv
   go_upto_region 12 with fail
   go_step
   refine wpList_load_row rfl 100 _ rfl _ rfl _ nx (0, 0) _ BX.out uSets rfl HN.out ?_
   simp only [Act.put, List.setIfInBounds_toArray, List.set_cons_zero, List.set_cons_succ]
   go_step
   refine wp_store_row 100 _ _ rfl _ nx rfl rfl _ _ BZ.out HN.out HZ.out NX.out.2 ?_
   simp only [Act.put]
   go_wp2_with fail
   refine bodyPost_ret (v := .tuple #[.agg nx, .int .i64 0]) (by simp [results, Tryz.results27, asAddr, run_loadVar_row (wr.setRow (w.heap.size + 1) nx) (w.heap.size + 1) 100 100 nx (0, 0) _ BR.out uSets rfl HN.out]) rfl FF.out
  obtain ⟨d, hxk⟩ : ∃ d, ds[k]? = some d := ⟨_, List.getElem?_eq_getElem hlt⟩
  obtain ⟨b, o, Ab, nb, cb, Ae, nr, cr, At, nt, ct, rfl, c0, c1, c2, c3, c4, c5, c6⟩ := DEV.out k d hxk V1
  have HX : Hid (ds[k]? = some d) := hxk
  have HDC : Hid (devC d = 0) := hdv.out d (List.mem_of_getElem? hxk)
  have k1 : (0 : Int) <= (k : Int) := by omega
  have k2 : (k : Int) < (ds.length : Int) := by omega
  have k3 : (k : Int) < 10 := by omega
  have V2 := KP ((Below.refl _ _).alloc (Nat.le_refl _) (.cells #[.string d.name, .int .i64 d.kind, .int .i64 d.addr, .int .u8 (d.pool : Int), .slice Ab nb cb, .slice Ae nr cr, .slice At nt ct] 62)) V1
  have DB : Bz (wr.alloc (.cells #[.string d.name, .int .i64 d.kind, .int .i64 d.addr, .int .u8 (d.pool : Int), .slice Ab nb cb, .slice Ae nr cr, .slice At nt ct] 62)) wr.heap.size #[.string d.name, .int .i64 d.kind, .int .i64 d.addr, .int .u8 (d.pool : Int), .slice Ab nb cb, .slice Ae nr cr, .slice At nt ct] 62 := Bz.new wr _ _ _ rfl
  obtain ⟨n0, n1⟩ := CN.out V2
  have P1 : Hid (Calls Tryz.prog 51 #[.agg #[.slice (some ⟨b, o, none⟩) ds.length cap, .slice B ls.length cap'], .agg #[.int .i64 (k : Int), .int .i64 0]] (wr.alloc (.cells #[.string d.name, .int .i64 d.kind, .int .i64 d.addr, .int .u8 (d.pool : Int), .slice Ab nb cb, .slice Ae nr cr, .slice At nt ct] 62)) fun e w' => e = .returned (.tuple #[placeV (peerF ls k 0), .bool (peerF ls k 0).isSome]) ∧ Below (wr.alloc (.cells #[.string d.name, .int .i64 d.kind, .int .i64 d.addr, .int .u8 (d.pool : Int), .slice Ab nb cb, .slice Ae nr cr, .slice At nt ct] 62)).heap.size (wr.alloc (.cells #[.string d.name, .int .i64 d.kind, .int .i64 d.addr, .int .u8 (d.pool : Int), .slice Ab nb cb, .slice Ae nr cr, .slice At nt ct] 62)) w') := by
   have h := V2
   rw [hV] at h
   have hbl := hR.kp_below h.kp
   exact peer_any _ B _ cap' ls (k : Int) 0 _ ((hL.out.below hbl).mono (Nat.le_trans (Nat.le_trans hR.lowA (Nat.le_of_lt hR.lta)) h.kp.size))
  have DBh : Hid (Bz (wr.alloc (.cells #[.string d.name, .int .i64 d.kind, .int .i64 d.addr, .int .u8 (d.pool : Int), .slice Ab nb cb, .slice Ae nr cr, .slice At nt ct] 62)) wr.heap.size #[.string d.name, .int .i64 d.kind, .int .i64 d.addr, .int .u8 (d.pool : Int), .slice Ab nb cb, .slice Ae nr cr, .slice At nt ct] 62) := DB
  clear hxk DB
  cases hp : peerF ls k 0 with
  | none =>
    rw [hp] at P1
    have J2 : Hid (∃ sx, SetsV nx sx ∧ HInv ds ls (k + 1) ns sx ∧ nx.all (·.oneCell') = true ∧ ns.length <= nsR.length + 44 * (k + 1)) := by
     obtain ⟨sx, q1, q2, q3, q4⟩ := J1.out
     exact ⟨sx, q1, hinv_skip q2 HX.out (Or.inr hp), q3, by omega⟩
    clear CN J1 hp DEV
    unfold placeV Option.isSome at P1
    go_wp2_with fail
    with_reducible refine P1.out.mono ?_
    rintro e w5 ⟨rfl, hb5⟩
    have V5 := KP ((Below.refl _ _).alloc (Nat.le_refl _) (.cells #[.int .i64 0, .int .i64 0] 43)) (KP hb5 V2)
    have DB5 : Bz (w5.alloc (.cells #[.int .i64 0, .int .i64 0] 43)) wr.heap.size #[.string d.name, .int .i64 d.kind, .int .i64 d.addr, .int .u8 (d.pool : Int), .slice Ab nb cb, .slice Ae nr cr, .slice At nt ct] 62 := Bz.al ((hb5.block _ DBh.out.lt).trans DBh.out) _
    have d1 := DB5.cell 1 (.int .i64 d.kind) rfl
    clear DB5 hb5 P1 V1 V2 c0 c1 c2 c3 c4 c5 c6 n0 n1
    by_cases hkd : d.kind = 1
    ·go_wp2_with fail
     go_roundw
     case rel => exact ⟨k + 1, nx, ns, by go_num, by omega, V5, J2⟩
     case measure => simp [intOf]; omega
    ·go_wp2_with fail
     go_roundw
     case rel => exact ⟨k + 1, nx, ns, by go_num, by omega, V5, J2⟩
     case measure => simp [intOf]; omega
  | some t =>
    obtain ⟨a, b', rfl, ha, hb'⟩ := peer_pl hz.out hp
    rw [hp] at P1
    have HP : Hid (peerF ls k 0 = some ((a : Int), (b' : Int))) := hp
    have a10 : (a : Int) < 10 := by omega
    have b4 : (b' : Int) < 4 := by omega
    have HA : Hid (a < 10 ∧ b' < 4) := ⟨ha, hb'⟩
    clear hp ha hb' DEV CN
    unfold placeV Option.isSome at P1
    dsimp only at P1
    by_cases hkd : d.kind = 1
    rotate_left
    ·have J2 : Hid (∃ sx, SetsV nx sx ∧ HInv ds ls (k + 1) ns sx ∧ nx.all (·.oneCell') = true ∧ ns.length <= nsR.length + 44 * (k + 1)) := by
      obtain ⟨sx, q1, q2, q3, q4⟩ := J1.out
      exact ⟨sx, q1, hinv_skip q2 HX.out (Or.inl hkd), q3, by omega⟩
     clear J1
     go_wp2_with fail
     with_reducible refine P1.out.mono ?_
     rintro e w5 ⟨rfl, hb5⟩
     have V5 := KP ((Below.refl _ _).alloc (Nat.le_refl _) (.cells #[.int .i64 (a : Int), .int .i64 (b' : Int)] 43)) (KP hb5 V2)
     have DB5 : Bz (w5.alloc (.cells #[.int .i64 (a : Int), .int .i64 (b' : Int)] 43)) wr.heap.size #[.string d.name, .int .i64 d.kind, .int .i64 d.addr, .int .u8 (d.pool : Int), .slice Ab nb cb, .slice Ae nr cr, .slice At nt ct] 62 := Bz.al ((hb5.block _ DBh.out.lt).trans DBh.out) _
     have d1 := DB5.cell 1 (.int .i64 d.kind) rfl
     clear DB5 hb5 P1 V1 V2 c0 c1 c2 c3 c4 c5 c6 n0 n1
     go_wp2_with fail
     go_roundw
     case rel => exact ⟨k + 1, nx, ns, by go_num, by omega, V5, J2⟩
     case measure => simp [intOf]; omega
    have HKD : Hid (d.kind = 1) := hkd
    clear hkd
    go_wp2_with fail
    with_reducible refine P1.out.mono ?_
    rintro e w5 ⟨rfl, hb5⟩
    have V5 := KP ((Below.refl _ _).alloc (Nat.le_refl _) (.cells #[.int .i64 (a : Int), .int .i64 (b' : Int)] 43)) (KP hb5 V2)
    obtain ⟨D, hDD⟩ : ∃ D, D = wr.heap.size := ⟨_, rfl⟩
    have DB5 : Bz (w5.alloc (.cells #[.int .i64 (a : Int), .int .i64 (b' : Int)] 43)) wr.heap.size #[.string d.name, .int .i64 d.kind, .int .i64 d.addr, .int .u8 (d.pool : Int), .slice Ab nb cb, .slice Ae nr cr, .slice At nt ct] 62 := Bz.al ((hb5.block _ DBh.out.lt).trans DBh.out) _
    have PB5 : Bz (w5.alloc (.cells #[.int .i64 (a : Int), .int .i64 (b' : Int)] 43)) w5.heap.size #[.int .i64 (a : Int), .int .i64 (b' : Int)] 43 := Bz.new w5 _ _ _ rfl
    have dl : D < w5.heap.size + 1 := by
     have := DB5.lt
     simp at this
     omega
    rw [<- hDD] at DB5 ⊢
    clear hb5 P1 V1 V2 c0 c1 c2 c3 c4 c5 c6 n0 n1 DBh hDD
    obtain ⟨⟨_, _⟩, ⟨ad0, ad16⟩, _⟩ := dev_right HDC.out
    have hzz := set_one ad0 ad16
    obtain ⟨zz, hzq⟩ : ∃ zz, zz = setL [d.addr] 0 := ⟨_, rfl⟩
    have HZ : Hid (zz = setL [d.addr] 0) := hzq
    rw [<- hzq] at hzz
    have SI : Hid (∀ (k : Nat) W, Bz W k #[.int .i64 d.addr] 3 -> Calls Tryz.prog 53 #[.slice (some ⟨k, 0, none⟩) 1 1] W fun e w' => e = .returned (.agg #[.int .u16 (zz : Int), .int .u16 65535, .int .u8 255, .int .u8 255]) ∧ Below W.heap.size W w') := fun k W hk => by
     rw [hzq]
     exact srcIn_any _ [d.addr] W (sl_one hk) (fun y hy => by simp at hy; omega)
    obtain ⟨K, hK⟩ : ∃ K : World -> Prop, K = fun W => (V nx ns W ∧ Bz W D #[.string d.name, .int .i64 d.kind, .int .i64 d.addr, .int .u8 (d.pool : Int), .slice Ab nb cb, .slice Ae nr cr, .slice At nt ct] 62 ∧ Bz W w5.heap.size #[.int .i64 (a : Int), .int .i64 (b' : Int)] 43) := ⟨_, rfl⟩
    have SI3 : Hid (Calls Tryz.prog 53 #[.slice (some ⟨w5.heap.size + 1, 0, none⟩) 1 1] ((w5.alloc (.cells #[.int .i64 (a : Int), .int .i64 (b' : Int)] 43)).alloc (.cells #[.int .i64 d.addr] 3)).drew fun e w' => e = .returned (.agg #[.int .u16 (zz : Int), .int .u16 65535, .int .u8 255, .int .u8 255]) ∧ K w' ∧ w'.cell? ⟨D, 2, none⟩ = some (.int .i64 d.addr)) := by
     have Z3 : Bz ((w5.alloc (.cells #[.int .i64 (a : Int), .int .i64 (b' : Int)] 43)).alloc (.cells #[.int .i64 d.addr] 3)).drew (w5.heap.size + 1) #[.int .i64 d.addr] 3 := Bz.new (w5.alloc _) _ _ _ (by simp)
     refine (SI.out _ _ Z3).mono fun e w' ⟨h1, h2⟩ => ⟨h1, ?_⟩
     have h3 : Below (w5.alloc (.cells #[.int .i64 (a : Int), .int .i64 (b' : Int)] 43)).heap.size (w5.alloc (.cells #[.int .i64 (a : Int), .int .i64 (b' : Int)] 43)) ((w5.alloc (.cells #[.int .i64 (a : Int), .int .i64 (b' : Int)] 43)).alloc (.cells #[.int .i64 d.addr] 3)).drew := ((Below.refl _ _).alloc (Nat.le_refl _) _).drew
     have h4 := h3.trans (h2.mono h3.size)
     have q2 := (h4.block _ DB5.lt).trans DB5
     rw [hK]
     exact ⟨⟨KP h4 V5, q2, (h4.block _ PB5.lt).trans PB5⟩, Bz.cell q2 2 _ rfl⟩
    have MB : Hid (∀ W, K W -> Calls Tryz.prog 52 #[.pointer (some ⟨R, 0, none⟩), .agg #[.int .u16 (zz : Int), .int .u16 65535, .int .u8 255, .int .u8 255]] W fun e w' => ∃ (ns' : List Nd) (v er : Int), e = .returned (.tuple #[.int .i64 v, .int .i64 er]) ∧ (V nx ns' w' ∧ Bz w' D #[.string d.name, .int .i64 d.kind, .int .i64 d.addr, .int .u8 (d.pool : Int), .slice Ab nb cb, .slice Ae nr cr, .slice At nt ct] 62 ∧ Bz w' w5.heap.size #[.int .i64 (a : Int), .int .i64 (b' : Int)] 43) ∧ Hid (Wf 14 ns ∧ Wf 14 ns' ∧ Ext ns ns' ∧ ns'.length <= ns.length + 44) ∧ w'.cell? ⟨D, 2, none⟩ = some (.int .i64 d.addr) ∧ Hid ((er = 0 ∧ ∃ f : Nat, v = (f : Int) ∧ f < ns'.length ∧ ∀ x, ev ns' f x = phi zz 65535 255 255 x) ∨ (er = 6 ∧ v = 0 ∧ most <= ns.length + 44))) := fun W h => by
     rw [hK] at h
     obtain ⟨h1, h2, h3⟩ := h
     rw [hV] at h1 ⊢
     refine (build_match h1.ar (Nat.le_refl _) zz 65535 255 255 hzz (by omega) (by omega) (by omega)).mono fun e w' ⟨ns', A1, K1, X1, L1, hv⟩ => ?_
     have q2 := h1.tf K1 h2 (by decide)
     have q3 := h1.tf K1 h3 (by decide)
     have q4 := q2.cell 2 (.int .i64 d.addr) rfl
     rcases hv with ⟨f, he, hf, _, hx⟩ | ⟨he, hm6⟩
     ·exact ⟨ns', f, 0, he, ⟨h1.step A1 K1 X1, q2, q3⟩, ⟨h1.ar.wf, A1.wf, X1, L1⟩, q4, Or.inl ⟨rfl, f, rfl, hf, hx⟩⟩
     ·exact ⟨ns', 0, 6, he, ⟨h1.step A1 K1 X1, q2, q3⟩, ⟨h1.ar.wf, A1.wf, X1, L1⟩, q4, Or.inr ⟨rfl, rfl, by omega⟩⟩
    have SX : Hid (∀ {nx : Array Value} {ns : List Nd} {W : World} (j : Nat) (u : Value), V nx ns W -> V (nx.setIfInBounds j u) ns (W.setCell ⟨w.heap.size + 1 + 1, j, none⟩ u)) := fun {nx ns W} j u h => by
     rw [hV] at h ⊢
     exact h.setx j u
    have XC : Hid (∀ {nx : Array Value} {ns : List Nd} {W : World} (j : Nat), j < nx.size -> V nx ns W -> (∃ v, W.cell? ⟨w.heap.size + 1 + 1, j, none⟩ = some v) ∧ W.frozen? ⟨w.heap.size + 1 + 1, j, none⟩ = false) := fun {nx ns W} j hj h => by
     rw [hV] at h
     exact ⟨⟨_, h.bx.cell j _ (Array.getElem?_eq_getElem hj)⟩, h.bx.free j⟩
    have EOUT : Hid (∀ {nx : Array Value} {ns : List Nd} {W : World}, V nx ns W -> ns.length <= nsR.length + 44 * ds.length -> most <= nsR.length + 44 * ds.length -> Hid (Bz W (w.heap.size + 1) zeros40 100) ∧ Hid (HOut w bR R MR most nsR ds ls (.returned (.tuple #[.agg zeros40, .int .i64 6])) W)) := fun {nx ns W} h hl4 he4 => by
     rw [hV] at h
     exact ⟨h.bz, zeros40, 6, ns, rfl, ⟨rfl, zeros_one⟩, h.ar, h.kp, h.ext, fun i c t hb ht => ((hR.outBox hb ht.1 ht.2.1).kp h.kp).blk, hl4, Or.inr ⟨rfl, rfl, he4⟩⟩
    have d1 := DB5.cell 1 (.int .i64 d.kind) rfl
    have d2 := DB5.cell 2 (.int .i64 d.addr) rfl
    rw [HKD.out] at d1
    clear SI hV hK V5 DB5 PB5 hzq hzz hR hD hL hdv HDC
    go_wp2_with fail
    go_region_held3 (fun W => W.cell? ⟨D, 2, none⟩ = some (.int .i64 d.addr)) (go_keep)
     ((first
       | (go_at_call 53; (with_reducible refine SI3.out.mono ?_); rintro e w6 ⟨rfl, K6, y2⟩; skip)
       | (go_at_call 52; (with_reducible refine (MB.out _ K6).mono ?_); rintro e w8 ⟨ns', v, er, rfl, ⟨V8, DB8, PB8⟩, X8, z2, hv8⟩; skip)))
    all_goals
     clear SI3 MB K6 y2 z2 d1 d2 DB8
     by_cases he : er = 0
     ·subst he
      have HV : Hid (∃ f : Nat, v = (f : Int) ∧ f < ns'.length ∧ ∀ x, ev ns' f x = phi zz 65535 255 255 x) := by
       rcases hv8.out with ⟨_, h⟩ | ⟨h, _⟩
       ·exact h
       ·cases h
      obtain ⟨f, rfl, hf, hfx⟩ := HV.out
      have J2 : Hid (∃ sx, SetsV (nx.setIfInBounds (a * 4 + b') (.int .i64 (f : Int))) sx ∧ HInv ds ls (k + 1) ns' sx ∧ (nx.setIfInBounds (a * 4 + b') (.int .i64 (f : Int))).all (·.oneCell') = true ∧ ns'.length <= nsR.length + 44 * (k + 1)) := by
       obtain ⟨sx, q1, q2, q3, q4⟩ := J1.out
       obtain ⟨y1, y2, y3, y4⟩ := X8.out
       refine ⟨updS sx a b' f, q1.upd HA.out.1 HA.out.2, hinv_put q2 (netV_links hz.out).2.2.1 y1 y2 y3 HX.out HKD.out HP.out hf (fun x => ?_), all_set q3 _ rfl, by omega⟩
       rw [hfx x, HZ.out]
      clear hf hfx HV hv8
      have hsz : a * 4 + b' < nx.size := by
       obtain ⟨sx, q1, _⟩ := J1.out
       have := q1.1
       have := HA.out.1
       have := HA.out.2
       omega
      have V8d := KP (Below.refl _ _).drew V8
      obtain ⟨⟨vv, cx⟩, fx⟩ := XC.out (a * 4 + b') hsz V8d
      have V9 := SX.out (a * 4 + b') (.int .i64 (f : Int)) V8d
      have g0 : w8.drew.cell? ⟨w5.heap.size, 0, none⟩ = some (.int .i64 (a : Int)) := PB8.cell 0 _ rfl
      have g1 : w8.drew.cell? ⟨w5.heap.size, 1, none⟩ = some (.int .i64 (b' : Int)) := PB8.cell 1 _ rfl
      have a0 : (0 : Int) <= (a : Int) := by omega
      have b0 : (0 : Int) <= (b' : Int) := by omega
      clear XC SX V8 V8d PB8 X8 J1 EOUT
      go_wp2_with fail
      go_region
      all_goals
       go_wp2_with fail
       go_roundw
       case rel => exact ⟨k + 1, _, ns', by go_num, by omega, V9, J2⟩
       case measure => simp [intOf]; omega
     ·have HE : Hid (er = 6) := by
       rcases hv8.out with ⟨h, _⟩ | ⟨h, _⟩
       ·exact absurd h he
       ·exact h
      obtain rfl := HE.out
      have LB : Hid (ns'.length <= nsR.length + 44 * ds.length ∧ most <= nsR.length + 44 * ds.length) := by
       obtain ⟨_, _, _, _, q4⟩ := J1.out
       obtain ⟨_, _, _, y4⟩ := X8.out
       refine ⟨by omega, ?_⟩
       rcases hv8.out with ⟨h, _⟩ | ⟨_, _, h⟩
       ·exact absurd h (by decide)
       ·omega
      obtain ⟨ZB, FF⟩ := EOUT.out V8 LB.out.1 LB.out.2
      clear LB
      clear XC SX HE he hv8
      go_upto_region 9 with fail
      go_step
      iterate 7 go_step
      refine wp_store_row 100 _ _ rfl _ zeros40 rfl rfl _ _ ZB.out iSets (by rfl) zeros_one ?_
      rw [setRow_self ZB.out]
      simp only [Act.put]
      go_wp2_with fail
      refine bodyPost_ret (v := .tuple #[.agg zeros40, .int .i64 6]) (by simp [results, Tryz.results27, asAddr, run_loadVar_row w8 (w.heap.size + 1) 100 100 zeros40 (0, 0) _ ZB.out uSets rfl iSets]) rfl FF.out
end
theorem exF_never (i j : Nat) : ∀ k, exF (fun _ => false) i j k = fun _ => false
 | 0 => rfl
 | k + 1 => by funext x; show exF _ i j k _ = false; rw [exF_never i j k]
theorem anF_never (i : Nat) : ∀ k, anF (fun _ => false) i k = fun _ => false
 | 0 => rfl
 | k + 1 => by funext x; show (anF _ i k _ || anF _ i k _) = false; rw [anF_never i k]; rfl
theorem sendF_never (d : Dv) (q : Int) (x : Env) : sendF d q (fun _ => false) (fun _ => false) (fun _ => false) (fun _ => false) x = false := by
 unfold sendF
 split
 ·simp [orP]
 split
 ·split <;> simp
 split
 ·split <;> simp [anF_never]
 split
 ·split <;> simp [anF_never]
 ·rfl
open Classical in
noncomputable def SetF (ds : List Dv) (ls : List Lk) : Nat -> Nat -> Nat -> Env -> Bool
 | 0 => fun a b x => decide (HostBy ds ls ds.length ((a : Int), (b : Int)) x)
 | k + 1 => fun a b x => decide (SetF ds ls k a b x = true ∨ SentBy ds ls (fun _ => False) (SetF ds ls k) ds.length 0 ((a : Int), (b : Int)) x)
section
variable {ds : List Dv} {ls : List Lk} {ns nsR : List Nd} {sw sn sx : Nat -> Nat -> Nat} {k : Nat}
theorem setF_zero (a b : Nat) (x : Env) : SetF ds ls 0 a b x = true ↔ HostBy ds ls ds.length ((a : Int), (b : Int)) x := by
 unfold SetF
 exact @decide_eq_true_iff _ (Classical.propDecidable _)
theorem setF_succ (k a b : Nat) (x : Env) : SetF ds ls (k + 1) a b x = true ↔ SetF ds ls k a b x = true ∨ SentBy ds ls (fun _ => False) (SetF ds ls k) ds.length 0 ((a : Int), (b : Int)) x := by
 rw [SetF]
 simp only [decide_eq_true_eq]
structure NInv (ds : List Dv) (ls : List Lk) (k : Nat) (ns : List Nd) (sw sn : Nat -> Nat -> Nat) : Prop where
 ltw : ∀ a b, a < 10 -> b < 4 -> sw a b < ns.length
 ltn : ∀ a b, a < 10 -> b < 4 -> sn a b < ns.length
 fn : ∀ a b, a < 10 -> b < 4 -> ev ns (sn a b) = SetF ds ls k a b
 was : (k = 0 ∧ ∀ a b, a < 10 -> b < 4 -> ev ns (sw a b) = fun _ => false) ∨ ∃ j, k = j + 1 ∧ ∀ a b, a < 10 -> b < 4 -> ev ns (sw a b) = SetF ds ls j a b
theorem ninv_start (h : HInv ds ls ds.length ns sn) (hW : Wf 14 ns) : NInv ds ls 0 ns (fun _ _ => 0) sn := by
 refine ⟨fun _ _ _ _ => Nat.lt_of_lt_of_le (by omega) hW.len, h.lt, fun a b ha hb => funext fun x => ?_, Or.inl ⟨rfl, fun _ _ _ _ => funext fun x => ev0 _ x⟩⟩
 rw [Bool.eq_iff_iff, h.fn a b ha hb x, setF_zero]
theorem ninv_grow (h : NInv ds ls k nsR sw sn) (h10 : ds.length <= 10) (G : GInv ds ls (fun i => sn i 0 = sw i 0 ∧ sn i 1 = sw i 1 ∧ sn i 2 = sw i 2 ∧ sn i 3 = sw i 3) (fun a b => ev nsR (sn a b)) ds.length 0 ns sx) (a b : Nat) (ha : a < 10) (hb : b < 4) : ev ns (sx a b) = SetF ds ls (k + 1) a b := by
 funext x
 rw [Bool.eq_iff_iff, G.fn a b ha hb x, setF_succ, h.fn a b ha hb]
 refine ⟨?_, ?_⟩
 ·rintro (h1 | ⟨i, q, d, h1, _, h3, h4, h5, h6⟩)
  ·exact Or.inl h1
  ·have hi : i < 10 := by
    have := (List.getElem?_eq_some_iff.1 h3).1
    omega
   dsimp only at h6
   rw [h.fn i 0 hi (by omega), h.fn i 1 hi (by omega), h.fn i 2 hi (by omega), h.fn i 3 hi (by omega)] at h6
   exact Or.inr ⟨i, q, d, h1, fun h => h, h3, h4, h5, h6⟩
 ·rintro (h1 | ⟨i, q, d, h1, _, h3, h4, h5, h6⟩)
  ·exact Or.inl h1
  ·have hi' := (List.getElem?_eq_some_iff.1 h3).1
   have hi : i < 10 := by omega
   by_cases hs : sn i 0 = sw i 0 ∧ sn i 1 = sw i 1 ∧ sn i 2 = sw i 2 ∧ sn i 3 = sw i 3
   ·obtain ⟨s0, s1, s2, s3⟩ := hs
    rw [<- h.fn i 0 hi (by omega), <- h.fn i 1 hi (by omega), <- h.fn i 2 hi (by omega), <- h.fn i 3 hi (by omega), s0, s1, s2, s3] at h6
    rcases h.was with ⟨_, hw⟩ | ⟨j, rfl, hw⟩
    ·rw [hw i 0 hi (by omega), hw i 1 hi (by omega), hw i 2 hi (by omega), hw i 3 hi (by omega), sendF_never] at h6
     cases h6
    ·rw [hw i 0 hi (by omega), hw i 1 hi (by omega), hw i 2 hi (by omega), hw i 3 hi (by omega)] at h6
     exact Or.inl ((setF_succ j a b x).2 (Or.inr ⟨i, q, d, h1, fun h => h, h3, h4, h5, h6⟩))
   ·rw [<- h.fn i 0 hi (by omega), <- h.fn i 1 hi (by omega), <- h.fn i 2 hi (by omega), <- h.fn i 3 hi (by omega)] at h6
    exact Or.inr ⟨i, q, d, h1, hs, h3, h4, h5, h6⟩
theorem ninv_next (h : NInv ds ls k nsR sw sn) (h10 : ds.length <= 10) (hW : Wf 14 nsR) (hW' : Wf 14 ns) (X : Ext nsR ns) (G : GInv ds ls (fun i => sn i 0 = sw i 0 ∧ sn i 1 = sw i 1 ∧ sn i 2 = sw i 2 ∧ sn i 3 = sw i 3) (fun a b => ev nsR (sn a b)) ds.length 0 ns sx) : NInv ds ls (k + 1) ns sn sx := by
 have hlen := X.len
 refine ⟨fun a b ha hb => Nat.lt_of_lt_of_le (h.ltn a b ha hb) hlen, G.lt, ninv_grow h h10 G, Or.inr ⟨k, rfl, fun a b ha hb => ?_⟩⟩
 rw [<- h.fn a b ha hb]
 exact funext (X.ev hW hW' _ (h.ltn a b ha hb))
theorem ninv_end (h : NInv ds ls k nsR sw sn) (h10 : ds.length <= 10) (hW : Wf 14 nsR) (hW' : Wf 14 ns) (X : Ext nsR ns) (G : GInv ds ls (fun i => sn i 0 = sw i 0 ∧ sn i 1 = sw i 1 ∧ sn i 2 = sw i 2 ∧ sn i 3 = sw i 3) (fun a b => ev nsR (sn a b)) ds.length 0 ns sx) (he : ∀ a b, a < 10 -> b < 4 -> sx a b = sn a b) (a b : Nat) (ha : a < 10) (hb : b < 4) : SetF ds ls (k + 1) a b = SetF ds ls k a b := by
 rw [<- ninv_grow h h10 G a b ha hb, he a b ha hb, <- h.fn a b ha hb]
 exact funext (X.ev hW hW' _ (h.ltn a b ha hb))
def envN (n : Nat) : Env := fun v => n.testBit v
noncomputable def cntF (ds : List Dv) (ls : List Lk) (k : Nat) : Nat :=
 (List.range 655360).countP fun n => SetF ds ls k (n / 65536) (n / 16384 % 4) (envN (n % 16384))
theorem cntF_le (k : Nat) : cntF ds ls k <= 655360 := by
 unfold cntF
 exact Nat.le_trans List.countP_le_length (by simp)
theorem countP_less {p q : Nat -> Bool} : ∀ {l : List Nat}, (∀ n ∈ l, p n = true -> q n = true) -> ∀ n0 ∈ l, q n0 = true -> p n0 = false -> l.countP p < l.countP q
 | [], _, _, h0, _, _ => by cases h0
 | y :: l, h, n0, h0, h1, h2 => by
   have hle : l.countP p <= l.countP q := List.countP_mono_left fun n hn => h n (List.mem_cons_of_mem _ hn)
   rcases List.mem_cons.1 h0 with rfl | h0
   ·simp only [List.countP_cons, h1, h2]
    simp
    omega
   ·have ih := countP_less (fun n hn => h n (List.mem_cons_of_mem _ hn)) n0 h0 h1 h2
    have hy := h y List.mem_cons_self
    simp only [List.countP_cons]
    cases hp : p y
    ·simp
     omega
    ·rw [hy hp]
     simp
     omega
theorem env_codes (x : Env) : ∀ k, ∃ n, n < 2 ^ k ∧ ∀ v, v < k -> n.testBit v = x v
 | 0 => ⟨0, by simp, fun v hv => by omega⟩
 | k + 1 => by
   obtain ⟨n, hn, hx⟩ := env_codes x k
   have hp : 2 ^ (k + 1) = 2 ^ k + 2 ^ k := by omega
   cases hk : x k
   ·refine ⟨n, by omega, fun v hv => ?_⟩
    by_cases e : v = k
    ·rw [e, hk]
     exact Nat.testBit_lt_two_pow hn
    ·exact hx v (by omega)
   ·refine ⟨2 ^ k + n, by omega, fun v hv => ?_⟩
    by_cases e : v = k
    ·rw [e, hk, Nat.testBit_two_pow_add_eq, Nat.testBit_lt_two_pow hn]
     rfl
    ·rw [Nat.testBit_two_pow_add_gt (by omega)]
     exact hx v (by omega)
theorem env_code (x : Env) : ∃ n, n < 16384 ∧ ∀ v, v < 14 -> envN n v = x v := env_codes x 14
theorem cnt_more (h : NInv ds ls k nsR sw sn) (h10 : ds.length <= 10) (hW : Wf 14 nsR) (hW' : Wf 14 ns) (X : Ext nsR ns) (G : GInv ds ls (fun i => sn i 0 = sw i 0 ∧ sn i 1 = sw i 1 ∧ sn i 2 = sw i 2 ∧ sn i 3 = sw i 3) (fun a b => ev nsR (sn a b)) ds.length 0 ns sx) {a b : Nat} (ha : a < 10) (hb : b < 4) (hne : sx a b ≠ sn a b) : cntF ds ls k < cntF ds ls (k + 1) := by
 have hlen := X.len
 have hln := Nat.lt_of_lt_of_le (h.ltn a b ha hb) hlen
 have hsn : ev ns (sn a b) = SetF ds ls k a b := by
  rw [<- h.fn a b ha hb]
  exact funext (X.ev hW hW' _ (h.ltn a b ha hb))
 obtain ⟨e, he⟩ : ∃ e, ev ns (sx a b) e ≠ ev ns (sn a b) e := Classical.byContradiction fun hc => hne (canon hW' (G.lt a b ha hb) hln fun e => Classical.byContradiction fun h2 => hc ⟨e, h2⟩)
 obtain ⟨n, hn, hx⟩ := env_code e
 have d1 := ev_dep hW' _ (G.lt a b ha hb) (envN n) e fun i _ hi => hx i hi
 have d2 := ev_dep hW' _ hln (envN n) e fun i _ hi => hx i hi
 rw [<- d1, <- d2, ninv_grow h h10 G a b ha hb, hsn] at he
 have hup : ∀ a b x, SetF ds ls k a b x = true -> SetF ds ls (k + 1) a b x = true := fun a b x h => (setF_succ k a b x).2 (Or.inl h)
 have q1 : (a * 65536 + b * 16384 + n) / 65536 = a := by omega
 have q2 : (a * 65536 + b * 16384 + n) / 16384 % 4 = b := by omega
 have q3 : (a * 65536 + b * 16384 + n) % 16384 = n := by omega
 refine countP_less (fun m _ hm => hup _ _ _ hm) (a * 65536 + b * 16384 + n) (List.mem_range.2 (by omega)) ?_ ?_
 ·show SetF ds ls (k + 1) _ _ _ = true
  rw [q1, q2, q3]
  cases h1 : SetF ds ls (k + 1) a b (envN n)
  ·cases h2 : SetF ds ls k a b (envN n)
   ·rw [h1, h2] at he
    exact absurd rfl he
   ·rw [hup _ _ _ h2] at h1
    cases h1
  ·rfl
 ·show SetF ds ls k _ _ _ = false
  rw [q1, q2, q3]
  cases h2 : SetF ds ls k a b (envN n)
  ·rfl
  ·rw [h2, hup _ _ _ h2] at he
   exact absurd rfl he
end
theorem Ar.copied {base a M vars most : Nat} {w : World} {ns : List Nd} (h : Ar base a M vars most w ns) :
  ∃ g cap, w.cell? ⟨a, 0, none⟩ = some (.int .i64 (vars : Int)) ∧ w.cell? ⟨a, 1, none⟩ = some (.int .i64 (most : Int)) ∧ w.cell? ⟨a, 2, none⟩ = some (.slice (some ⟨g, 0, none⟩) ns.length cap) ∧ w.cell? ⟨a, 3, none⟩ = some (.map (some M)) ∧
    ∀ W, Below w.heap.size w W -> Ar base W.heap.size M vars most (W.alloc (.cells #[.int .i64 (vars : Int), .int .i64 (most : Int), .slice (some ⟨g, 0, none⟩) ns.length cap, .map (some M), .slice none 0 0] 96)) ns := by
 obtain ⟨g, cap, cs, t, hb, hc, hrow⟩ := h.blk
 refine ⟨g, cap, ?_, ?_, ?_, ?_, fun W hW => ?_⟩
 ·rw [cell_of_row w a 0 _ _ _ hb]; exact hc.c0
 ·rw [cell_of_row w a 1 _ _ _ hb]; exact hc.c1
 ·rw [cell_of_row w a 2 _ _ _ hb]; exact hc.c2
 ·rw [cell_of_row w a 3 _ _ _ hb]; exact hc.c3
 have hlo : base <= W.heap.size := Nat.le_trans h.lowA (Nat.le_trans (Nat.le_of_lt h.lta) hW.size)
 refine ⟨h.wf, h.le, h.vars1, h.vars16, h.most4, hlo, h.lowM, ⟨g, cap, _, _, Go.heap_alloc_new W _, ⟨rfl, rfl, rfl, rfl, Or.inr rfl⟩, ?_⟩, ?_⟩
 ·refine ⟨hrow.1, ?_⟩
  rcases hrow.2 with ⟨hv, _⟩ | ⟨g', cap', cur, hv, hbase, hg, rest⟩
  ·cases hv
  ·simp only [Value.slice.injEq, Option.some.injEq, Addr.mk.injEq, and_true, true_and] at hv
   obtain ⟨rfl, rfl⟩ := hv
   have hlt : g < w.heap.size := (Array.getElem?_eq_some_iff.1 hg).1
   exact .inr ⟨g, cap, cur, rfl, hbase, (Below.heap_alloc W _ g (Nat.lt_of_lt_of_le hlt hW.size)).trans ((hW.block g hlt).trans hg), rest⟩
 ·obtain ⟨num, hm, hn⟩ := h.map
  exact ⟨num, hm.same ((Below.heap_alloc W _ M (Nat.lt_of_lt_of_le h.ltM hW.size)).trans (hW.block M h.ltM)), hn⟩
structure KeptB (w w' : World) (row : Option Nat) : Prop where
 size : w.heap.size <= w'.heap.size
 block : ∀ k, k < w.heap.size -> some k ≠ row -> w'.heap[k]? = w.heap[k]?
theorem KeptB.of_below {w w' : World} (h : Below w.heap.size w w') : KeptB w w' none := ⟨h.size, fun k hk _ => h.block k hk⟩
section
variable {w w' : World} {B e size n : Nat} {v : Value} {xs : List Value} {row : Option Nat}
theorem own_block (h : w.ownsRow B e size v n xs) {g : Nat} (hg : v.ownBlock = some g) : g < w.heap.size ∧ B <= g ∧ ∃ cur, w.heap[g]? = some (.cells cur e (0, 0)) := by
 rcases h.2 with ⟨rfl, _⟩ | ⟨g', cap, cur, rfl, hb, hh, _⟩
 ·cases hg
 ·obtain rfl : g' = g := by simpa [Value.ownBlock] using hg
  exact ⟨(Array.getElem?_eq_some_iff.1 hh).1, hb, cur, hh⟩
theorem own_kept (h : w.ownsRow B e size v n xs) (hk : KeptB w w' row) (hr : ∀ g, v.ownBlock = some g -> row ≠ some g) : w'.ownsRow B e size v n xs := by
 refine ⟨h.1, ?_⟩
 rcases h.2 with k | ⟨g, cap, cur, h1, h2, h3, h4⟩
 ·exact Or.inl k
 ·refine Or.inr ⟨g, cap, cur, h1, h2, ?_, h4⟩
  rw [hk.block g (Array.getElem?_eq_some_iff.1 h3).1 (fun e => hr g (by rw [h1]; rfl) e.symm)]
  exact h3
theorem kept_set (w : World) (g j : Nat) (u : Value) : KeptB w (w.setCell ⟨g, j, none⟩ u) (some g) := ⟨by rw [Go.Deep.nblk_setCell]; exact Nat.le_refl _, fun k _ hr => Go.Deep.blk_setCell_other w ⟨g, j, none⟩ u k (fun e => hr (by rw [e]))⟩
end
theorem app_el {t e : TypeId} {z : Value} {size bytes : Nat} (hu : Tryz.prog.underlying t = some (.slice e)) (hinfo : (Tryz.prog.info? e).map (fun i => (i.zero, i.size, i.bytes)) = some (some z, size, bytes)) (hz1 : z.cells.size = size) (hs0 : 0 < size) (hby : bytes <= 320)
  {base n : Nat} {w : World} {v : Value} {xs us : List Value} (ty : TypeId) (h : w.ownsRow base e size v n xs) (hus : us.length = size) (h1 : ∀ u ∈ us, u.oneCell' = true) (hn : n <= 700000) (hb : base <= w.heap.size) :
  ∃ v' w', (Builtin.append_ #[t, t] ty #[v, .slice (some ⟨w.heap.size, 0, none⟩) 1 1]).run Tryz.prog (w.alloc (.cells us.toArray e)) = .ok v' w' ∧ w'.ownsRow base e size v' (n + 1) (xs ++ us) ∧ Below base w w' ∧ KeptB w w' v.ownBlock ∧ (v'.ownBlock = v.ownBlock ∨ ∃ g, v'.ownBlock = some g ∧ w.heap.size <= g) := by
 obtain ⟨i0, hi, hz0, hz1', hz2⟩ := info_parts hinfo
 have hA : Below w.heap.size w (w.alloc (.cells us.toArray e)) := (Below.refl _ _).alloc (Nat.le_refl _) _
 have ho : (w.alloc (.cells us.toArray e)).ownsRow base e size v n xs := own_kept h (KeptB.of_below hA) (fun g _ => by simp)
 obtain ⟨v', w', hr, h4, h5, _, h7⟩ := run_append_own_at (P := Tryz.prog) (w.alloc (.cells us.toArray e)) base t ty e i0 z size bytes hu hi hz0 hz1' hz2 hz1 hs0 v n xs ho ⟨w.heap.size, 0, none⟩ 1 1 us (by rw [hus, Nat.one_mul]) (fun j x hj => by
  have hg : (w.alloc (.cells us.toArray e)).heap[w.heap.size]? = some (.cells us.toArray e) := Go.Deep.blk_alloc_new w _
  rw [Addr.add_lit, Nat.zero_add]
  simp only [World.cell?, hg]
  simp [hj]) h1 (by unfold maxLen; omega) (by
   have : (n + 1) * bytes <= 700001 * 320 := Nat.mul_le_mul (by omega) hby
   omega) (by simp; omega)
 have hsz : (w.alloc (.cells us.toArray e)).heap.size = w.heap.size + 1 := Go.Deep.nblk_alloc w _
 refine ⟨v', w', hr, h4, ?_, ⟨by have := h5.size; omega, fun k hk hne => ?_⟩, ?_⟩
 ·exact ((Below.refl base w).alloc hb (.cells us.toArray e)).grown h5 (by simp; omega) (fun k e => (ho.lt k e).1)
 ·rw [h5.block k (by omega) hne, Go.Deep.blk_alloc_lt w _ k hk]
 ·rcases h7 with h7 | h7
  ·exact Or.inl h7
  ·exact Or.inr ⟨_, h7, by omega⟩
theorem zSets : (Tryz.prog.info? 100).map (fun i => (i.zero, i.size, i.bytes)) = some (some (.agg zeros40), 40, 320) := by kernel_rfl
theorem app_sets {t : TypeId} (hu : Tryz.prog.underlying t = some (.slice 100)) {base n : Nat} {w : World} {v : Value} {xs : List Value} {us : Array Value} (ty : TypeId) (h : w.ownsRow base 100 40 v n xs) (hus : us.size = 40) (h1 : us.all (·.oneCell') = true) (hn : n <= 700000) (hb : base <= w.heap.size) :
  ∃ v' w', (Builtin.append_ #[t, t] ty #[v, .slice (some ⟨w.heap.size, 0, none⟩) 1 1]).run Tryz.prog (w.alloc (.cells us 100)) = .ok v' w' ∧ w'.ownsRow base 100 40 v' (n + 1) (xs ++ us.toList) ∧ Below base w w' ∧ KeptB w w' v.ownBlock ∧ (v'.ownBlock = v.ownBlock ∨ ∃ g, v'.ownBlock = some g ∧ w.heap.size <= g) := by
 obtain ⟨l, rfl⟩ : ∃ l : List Value, us = l.toArray := ⟨us.toList, by simp⟩
 exact app_el hu zSets (by rfl) (by omega) (by omega) ty h (by simpa using hus) (fun u hu => by
  have := Array.all_eq_true_iff_forall_mem.1 h1
  exact this u (by simpa using hu)) hn hb
theorem Ar.setPost {base a M vars most : Nat} {w : World} {ns : List Nd} (h : Ar base a M vars most w ns) {j : Nat} (hj : 4 <= j) (u : Value) : Ar base a M vars most (w.setCell ⟨a, j, none⟩ u) ns := by
 have hF : ∀ i, i ≠ a -> (w.setCell ⟨a, j, none⟩ u).heap[i]? = w.heap[i]? := fun i hi => Below.heap_setCell w ⟨a, j, none⟩ u i hi
 obtain ⟨g, cap, cs, t, hb, hc, hrow⟩ := h.blk
 have hM : M ≠ a := fun e => by
  obtain ⟨num, ⟨D, ⟨es, clock, h1, _⟩, _⟩, _⟩ := h.map
  rw [e, hb] at h1
  cases h1
 have hb2 : (w.setCell ⟨a, j, none⟩ u).heap[a]? = some (.cells (cs.setIfInBounds j u) t (0, 0)) := Bz.set (W := w) (k := a) (j := j) (c := cs) (t := t) hb u
 refine ⟨h.wf, h.le, h.vars1, h.vars16, h.most4, h.lowA, h.lowM, ⟨g, cap, _, t, hb2, ⟨?_, ?_, ?_, ?_, hc.ty⟩, ?_⟩, ?_⟩
 ·rw [Array.getElem?_setIfInBounds_ne (by omega)]; exact hc.c0
 ·rw [Array.getElem?_setIfInBounds_ne (by omega)]; exact hc.c1
 ·rw [Array.getElem?_setIfInBounds_ne (by omega)]; exact hc.c2
 ·rw [Array.getElem?_setIfInBounds_ne (by omega)]; exact hc.c3
 ·refine ⟨hrow.1, ?_⟩
  rcases hrow.2 with ⟨hv, _⟩ | ⟨g', cap', cur, hv, hbase, hg, rest⟩
  ·cases hv
  ·simp only [Value.slice.injEq, Option.some.injEq, Addr.mk.injEq, and_true, true_and] at hv
   obtain ⟨rfl, rfl⟩ := hv
   have hga : g ≠ a := fun e => by
    rw [e, hb] at hg
    simp only [Option.some.injEq, Obj.cells.injEq] at hg
    have ht := hg.2.1
    rcases hc.ty with e2 | e2 <;> (rw [e2] at ht; revert ht; decide)
   exact .inr ⟨g, cap, cur, rfl, hbase, (hF g hga).trans hg, rest⟩
 ·obtain ⟨num, hm, hn⟩ := h.map
  exact ⟨num, hm.same (hF M hM), hn⟩
structure Nw (bR R MR most : Nat) (w : World) (u0 u1 : Value) (NB WB NN : Nat) (cw cn : Array Value) (sl : Value) (k : Nat) (xs : List Value) (ns : List Nd) (W : World) : Prop where
 ar : Ar bR R MR 14 most W ns
 low : w.heap.size <= bR
 be : Below w.heap.size w W
 c4 : W.cell? ⟨R, 4, none⟩ = some sl
 row : W.ownsRow bR 100 40 sl k xs
 bN : Bz W NB #[u0, u1] 25
 bw : Bz W WB cw 100
 bn : Bz W NN cn 100
 lw : bR <= WB
 ln : bR <= NN
 d1 : WB ≠ NN
 d2 : sl.ownBlock ≠ some WB
 d3 : sl.ownBlock ≠ some NN
section
variable {bR R MR most : Nat} {w W W' : World} {u0 u1 sl : Value} {NB WB NN k : Nat} {cw cn : Array Value} {xs : List Value} {ns ns' : List Nd}
theorem Nw.size (h : Nw bR R MR most w u0 u1 NB WB NN cw cn sl k xs ns W) : bR <= W.heap.size := Nat.le_trans h.ar.lowA (Nat.le_of_lt h.ar.lta)
theorem Nw.below (h : Nw bR R MR most w u0 u1 NB WB NN cw cn sl k xs ns W) (hb : Below W.heap.size W W') : Nw bR R MR most w u0 u1 NB WB NN cw cn sl k xs ns W' :=
 ⟨h.ar.below hb, h.low, h.be.trans (hb.mono h.be.size), (cellB (hb.block _ h.ar.lta)).trans h.c4, own_kept h.row (KeptB.of_below hb) (fun g _ => by simp), (hb.block _ h.bN.lt).trans h.bN, (hb.block _ h.bw.lt).trans h.bw, (hb.block _ h.bn.lt).trans h.bn, h.lw, h.ln, h.d1, h.d2, h.d3⟩
theorem Nw.tf (h : Nw bR R MR most w u0 u1 NB WB NN cw cn sl k xs ns W) (K : Kp (ca bR R MR 14 most) W W') {i : Nat} {c : Array Value} {t : TypeId} (hb : Bz W i c t) (ht : okT t) : Bz W' i c t := ((h.ar.outBox hb ht.1 ht.2.1).kp K).blk
theorem Nw.step (h : Nw bR R MR most w u0 u1 NB WB NN cw cn sl k xs ns W) (A' : Ar bR R MR 14 most W' ns') (K : Kp (ca bR R MR 14 most) W W') : Nw bR R MR most w u0 u1 NB WB NN cw cn sl k xs ns' W' := by
 refine ⟨A', h.low, h.be.trans ((h.ar.kp_below K).mono h.low), (K.post 4 (by omega)).trans h.c4, ?_, h.tf K h.bN (by decide), h.tf K h.bw (by decide), h.tf K h.bn (by decide), h.lw, h.ln, h.d1, h.d2, h.d3⟩
 refine ⟨h.row.1, ?_⟩
 rcases h.row.2 with e | ⟨g, cap, cur, h1, h2, h3, h4⟩
 ·exact Or.inl e
 ·exact Or.inr ⟨g, cap, cur, h1, h2, h.tf K (t := 100) h3 (by decide), h4⟩
theorem Nw.app {v' : Value} {W1 : World} (h : Nw bR R MR most w u0 u1 NB WB NN cw cn sl k xs ns W) (hr : W1.ownsRow bR 100 40 v' (k + 1) (xs ++ cn.toList)) (hb : Below bR W W1) (hk : KeptB W W1 sl.ownBlock) (hv : v'.ownBlock = sl.ownBlock ∨ ∃ g, v'.ownBlock = some g ∧ W.heap.size <= g) :
  Nw bR R MR most w u0 u1 NB WB NN cw cn v' (k + 1) (xs ++ cn.toList) ns (W1.setCell ⟨R, 4, none⟩ v') := by
 have nt : ∀ {i : Nat} {c : Array Value} {t : TypeId}, W.heap[i]? = some (.cells c t (0, 0)) -> t ≠ 100 -> some i ≠ sl.ownBlock := fun {i c t} hi ht e => by
  obtain ⟨_, _, cur, hc⟩ := own_block h.row e.symm
  rw [hi] at hc
  simp only [Option.some.injEq, Obj.cells.injEq] at hc
  exact ht hc.2.1
 obtain ⟨g0, cap0, cs0, t0, hR, hC, hrow0⟩ := h.ar.blk
 have nR : some R ≠ sl.ownBlock := nt hR (by rcases hC.ty with e | e <;> (rw [e]; decide))
 have nM : some MR ≠ sl.ownBlock := fun e => by
  obtain ⟨_, _, cur, hc⟩ := own_block h.row e.symm
  obtain ⟨num, ⟨D, ⟨es, clock, h1, _⟩, _⟩, _⟩ := h.ar.map
  rw [h1] at hc
  cases hc
 obtain ⟨cur, hcur, _, rl⟩ := h.ar.row
 have nr : some (rowOf W R) ≠ sl.ownBlock := nt hcur (by decide)
 have A1 : Ar bR R MR 14 most W1 ns := h.ar.same (hk.block _ h.ar.lta nR) (hk.block _ h.ar.ltM nM) (hk.block _ rl nr)
 have hF : ∀ i, i ≠ R -> (W1.setCell ⟨R, 4, none⟩ v').heap[i]? = W1.heap[i]? := fun i hi => Below.heap_setCell W1 ⟨R, 4, none⟩ v' i hi
 have bx : ∀ {i : Nat} {c : Array Value} {t : TypeId}, Bz W i c t -> some i ≠ sl.ownBlock -> t ≠ 96 ∧ t ≠ 93 -> Bz (W1.setCell ⟨R, 4, none⟩ v') i c t := fun {i c t} hi hn ht => by
  have hne : i ≠ R := fun e => by
   unfold Bz at hi
   rw [e, hR] at hi
   simp only [Option.some.injEq, Obj.cells.injEq] at hi
   rcases hC.ty with e2 | e2
   ·exact ht.2 (by rw [<- hi.2.1, e2])
   ·exact ht.1 (by rw [<- hi.2.1, e2])
  exact (hF i hne).trans ((hk.block i hi.lt hn).trans hi)
 have hvn : ∀ x, x < W.heap.size -> some x ≠ sl.ownBlock -> v'.ownBlock ≠ some x := fun x hx hn => by
  rcases hv with e | ⟨g, e, hg⟩
  ·rw [e]; exact fun e => hn e.symm
  ·rw [e]; intro e2; have := Option.some.inj e2; omega
 have be1 : Below w.heap.size w (W1.setCell ⟨R, 4, none⟩ v') := by
  have b1 := h.be.trans (hb.mono h.low)
  have lR := h.ar.lowA
  have lo := h.low
  exact ⟨b1.os, b1.tape, b1.output, by simp [World.setCell]; exact b1.size, fun i hi => (hF i (by omega)).trans (b1.block i hi)⟩
 refine ⟨A1.setPost (by omega) v', h.low, be1, ?_, ?_, bx h.bN (nt h.bN (by decide)) (by decide), bx h.bw (fun e => h.d2 e.symm) (by decide), bx h.bn (fun e => h.d3 e.symm) (by decide), h.lw, h.ln, h.d1, hvn _ h.bw.lt (fun e => h.d2 e.symm), hvn _ h.bn.lt (fun e => h.d3 e.symm)⟩
 ·have hc5 : 4 < cs0.size := by
   have := h.c4
   rw [cell_of_row W R 4 _ _ _ hR] at this
   exact (Array.getElem?_eq_some_iff.1 this).1
  have h1 : Bz W1 R cs0 t0 := (hk.block _ h.ar.lta nR).trans hR
  have h2 := h1.set (j := 4) v'
  exact h2.cell 4 _ (by simp [hc5])
 ·exact own_kept hr (kept_set W1 R 4 v') (fun g hg e => by
   obtain ⟨_, _, cur, hc⟩ := own_block hr hg
   obtain rfl := Option.some.inj e
   rw [hk.block _ h.ar.lta nR, hR] at hc
   simp only [Option.some.injEq, Obj.cells.injEq] at hc
   have ht := hc.2.1
   rcases hC.ty with e2 | e2 <;> (rw [e2] at ht; revert ht; decide))
theorem Nw.turn {cx : Array Value} (h : Nw bR R MR most w u0 u1 NB WB NN cw cn sl k xs ns W) : Nw bR R MR most w u0 u1 NB WB NN cn cx sl k xs ns ((W.setRow WB cn).setRow NN cx) := by
 have hA : ∀ i, (W.setRow WB cn).heap[i]? = if WB = i then some (.cells cn 100 (0, 0)) else W.heap[i]? := setRow_heap' W WB cw cn _ h.bw
 have bn1 : Bz (W.setRow WB cn) NN cn 100 := by
  show _ = _
  rw [hA, if_neg h.d1]
  exact h.bn
 have hB := setRow_heap' (W.setRow WB cn) NN cn cx _ bn1
 have hF : ∀ i, i ≠ WB -> i ≠ NN -> ((W.setRow WB cn).setRow NN cx).heap[i]? = W.heap[i]? := fun i h1 h2 => by rw [hB, if_neg (fun e => h2 e.symm), hA, if_neg (fun e => h1 e.symm)]
 have out : ∀ {i : Nat} {c : Array Value}, Bz W i c 100 -> R ≠ i ∧ MR ≠ i ∧ rowOf W R ≠ i ∧ NB ≠ i := fun {i c} hi => by
  have L := (h.ar.outBox hi (by decide) (by decide)).out
  refine ⟨fun e => L.not (Or.inl e.symm), fun e => L.not (Or.inr (Or.inr (Or.inl e.symm))), fun e => L.ne e.symm, fun e => ?_⟩
  have hn := h.bN
  unfold Bz at hn hi
  rw [e, hi] at hn
  simp only [Option.some.injEq, Obj.cells.injEq] at hn
  exact absurd hn.2.1 (by decide)
 obtain ⟨a1, a2, a3, a4⟩ := out h.bw
 obtain ⟨b1, b2, b3, b4⟩ := out h.bn
 have lo := h.low
 have l1 := h.lw
 have l2 := h.ln
 refine ⟨h.ar.same (hF _ a1 b1) (hF _ a2 b2) (hF _ a3 b3), h.low, ⟨h.be.os, h.be.tape, h.be.output, by simp [World.setRow]; exact h.be.size, fun i hi => (hF i (by omega) (by omega)).trans (h.be.block i hi)⟩, (cellB (hF _ a1 b1)).trans h.c4, ?_, (hF _ a4 b4).trans h.bN, ?_, ?_, h.lw, h.ln, h.d1, h.d2, h.d3⟩
 ·refine ⟨h.row.1, ?_⟩
  rcases h.row.2 with e | ⟨g, cap, cur, h1, h2, h3, h4⟩
  ·exact Or.inl e
  ·refine Or.inr ⟨g, cap, cur, h1, h2, (hF g (fun e => h.d2 ?_) (fun e => h.d3 ?_)).trans h3, h4⟩
   ·rw [h1, <- e]; rfl
   ·rw [h1, <- e]; rfl
 ·show _ = _
  rw [hB, if_neg (fun e => h.d1 e.symm), hA, if_pos rfl]
 ·show _ = _
  rw [hB, if_pos rfl]
end
theorem eqItems_run {d n : Nat} {e : TypeId} {xs ys : Array Value} {b : Nat -> Bool} {W : World} : ∀ (is : List Nat), (∀ j ∈ is, ∃ x y, (part e xs (j * n)).run Tryz.prog W = .ok x W ∧ (part e ys (j * n)).run Tryz.prog W = .ok y W ∧ (Op.equalIn d e x y).run Tryz.prog W = .ok (b j) W) -> (Op.eqItems d e n xs ys is).run Tryz.prog W = .ok (is.all b) W
 | [], _ => by simp [Op.eqItems]
 | j :: is, h => by
   obtain ⟨x, y, p1, p2, p3⟩ := h j List.mem_cons_self
   have ih := eqItems_run is fun i hi => h i (List.mem_cons_of_mem _ hi)
   simp only [Op.eqItems, Sem.run_bind, p1, p2, p3, Result.andThen_ok]
   cases hb : b j
   ·simp [hb]
   ·simp [hb, ih]
theorem part_ports (xs : Array Value) (off : Nat) (W : World) : (part 98 xs off).run Tryz.prog W = .ok (.agg (xs.extract off (off + 4))) W := by
 obtain ⟨i, hi⟩ : ∃ i, Tryz.prog.info? 98 = some i := by
  have h : (Tryz.prog.info? 98).isSome = true := by kernel_rfl
  exact Option.isSome_iff_exists.1 h
 have nI : Tryz.prog.cellsOf 98 = 4 := by kernel_rfl
 simp only [part, isAgg, Sem.run_bind, run_underlying Tryz.underlying98, Result.andThen_ok, Sem.run_pure, if_true, run_sizeOf W hi, nI]
open Classical in
theorem sets_eq {cx cn : Array Value} {sx sn : Nat -> Nat -> Nat} (h1 : SetsV cx sx) (h2 : SetsV cn sn) (W : World) : ∃ r : Bool, (binOp .eql 100 (.agg cx) (.agg cn)).run Tryz.prog W = .ok (.bool r) W ∧ (r = true ↔ ∀ a b, a < 10 -> b < 4 -> sx a b = sn a b) := by
 obtain ⟨i, hi⟩ : ∃ i, Tryz.prog.info? 98 = some i := by
  have h : (Tryz.prog.info? 98).isSome = true := by kernel_rfl
  exact Option.isSome_iff_exists.1 h
 obtain ⟨i2, hi2⟩ : ∃ i, Tryz.prog.info? 3 = some i := by
  have h : (Tryz.prog.info? 3).isSome = true := by kernel_rfl
  exact Option.isSome_iff_exists.1 h
 have nI : Tryz.prog.cellsOf 3 = 1 := by kernel_rfl
 have plainI : Tryz.prog.plainKey 3 = true := by kernel_rfl
 have nP : Tryz.prog.cellsOf 98 = 4 := by kernel_rfl
 refine ⟨(List.range 10).all fun a => (List.range 4).all fun b => decide (sx a b = sn a b), ?_, ?_⟩
 ·rw [run_eql_struct, show (10000 : Nat) = 9998 + 1 + 1 from rfl, run_equalIn_array W (9998 + 1) _ _ Tryz.underlying100 hi, nP, eqItems_run (b := fun a => (List.range 4).all fun b => decide (sx a b = sn a b)) (List.range 10) fun a ha => ?_]
  ·rfl
  have ha := List.mem_range.1 ha
  refine ⟨_, _, part_ports cx (a * 4) W, part_ports cn (a * 4) W, ?_⟩
  rw [run_equalIn_array W 9998 _ _ Tryz.underlying98 hi2, nI]
  refine eqItems_run _ fun b hb => ?_
  have hb := List.mem_range.1 hb
  have g : ∀ {c : Array Value} {s : Nat -> Nat -> Nat}, SetsV c s -> (c.extract (a * 4) (a * 4 + 4))[b * 1]? = some (.int .i64 (s a b : Int)) := fun {c s} h => by
   have e := h.2 a b ha hb
   have hs := h.1
   rw [Array.getElem?_extract, Nat.mul_one, if_pos (by omega), e]
  refine ⟨_, _, run_part_plain W plainI (g h1), run_part_plain W plainI (g h2), ?_⟩
  have q : ∀ (x y : Int), (Op.equalIn 9998 3 (.int .i64 x) (.int .i64 y)).run Tryz.prog W = .ok (x == y) W := fun x y => run_equalIn_int W 9997 3 .i64 .i64 x y Tryz.underlying3
  have hq : ((sx a b : Int) == (sn a b : Int)) = decide (sx a b = sn a b) := by
   rw [Bool.eq_iff_iff, beq_iff_eq, decide_eq_true_eq]
   omega
  exact (q _ _).trans (by rw [hq])
 ·simp only [List.all_eq_true, List.mem_range, decide_eq_true_eq]
  exact ⟨fun h a b ha hb => h a ha b hb, fun h a ha b hb => h a b ha hb⟩
def Hist (ds : List Dv) (ls : List Lk) (n : Nat) (xs : List Value) (ns : List Nd) : Prop :=
 ∃ s : Nat -> Nat -> Nat -> Nat, ∀ j a b, j < n -> a < 10 -> b < 4 -> xs[j * 40 + (a * 4 + b)]? = some (.int .i64 (s j a b : Int)) ∧ s j a b < ns.length ∧ ev ns (s j a b) = SetF ds ls j a b
section
variable {ds : List Dv} {ls : List Lk} {k : Nat} {xs : List Value} {ns ns' : List Nd} {cn : Array Value} {sw sn : Nat -> Nat -> Nat}
theorem Hist.ext (h : Hist ds ls k xs ns) (hW : Wf 14 ns) (hW' : Wf 14 ns') (X : Ext ns ns') : Hist ds ls k xs ns' := by
 obtain ⟨s, hs⟩ := h
 have hlen := X.len
 refine ⟨s, fun j a b hj ha hb => ?_⟩
 obtain ⟨h1, h2, h3⟩ := hs j a b hj ha hb
 refine ⟨h1, by omega, ?_⟩
 rw [<- h3]
 exact funext (X.ev hW hW' _ h2)
theorem Hist.app (h : Hist ds ls k xs ns) (hl : xs.length = k * 40) (N : NInv ds ls k ns sw sn) (hc : SetsV cn sn) : Hist ds ls (k + 1) (xs ++ cn.toList) ns := by
 obtain ⟨s, hs⟩ := h
 refine ⟨fun j => if j = k then sn else s j, fun j a b hj ha hb => ?_⟩
 by_cases e : j = k
 ·dsimp only
  rw [if_pos e]
  refine ⟨?_, N.ltn a b ha hb, by rw [N.fn a b ha hb, e]⟩
  rw [List.getElem?_append_right (by omega), show j * 40 + (a * 4 + b) - xs.length = a * 4 + b by omega, Array.getElem?_toList]
  exact hc.2 a b ha hb
 ·dsimp only
  rw [if_neg e]
  obtain ⟨h1, h2, h3⟩ := hs j a b (by omega) ha hb
  refine ⟨?_, h2, h3⟩
  rw [List.getElem?_append_left (by omega)]
  exact h1
theorem cnt_ge (h : ∀ j, j < k -> cntF ds ls j < cntF ds ls (j + 1)) : k <= cntF ds ls k := by
 induction k with
 | zero => omega
 | succ n ih =>
   have h1 := ih fun j hj => h j (by omega)
   have h2 := h n (by omega)
   omega
end
def RoomP (ds : List Dv) (ls : List Lk) (most gW : Nat) (E : Prop) : Prop :=
 ∃ k, (∀ j, j < k -> cntF ds ls j < cntF ds ls (j + 1)) ∧ (E ∨ most <= 2 + 44 * ds.length + gW * (4 * ds.length) * (k + 1))
def RNewOut (ds : List Dv) (ls : List Lk) (most : Nat) (EE : Prop) (w : World) (e : Ending) (w' : World) : Prop :=
 Below w.heap.size w w' ∧ ((∃ (bR R MR K : Nat) (sl : Value) (xs : List Value) (ns : List Nd), e = .returned (.tuple #[.pointer (some ⟨R, 0, none⟩), .int .i64 0]) ∧ w.heap.size <= bR ∧ Ar bR R MR 14 most w' ns ∧ w'.cell? ⟨R, 4, none⟩ = some sl ∧ w'.ownsRow bR 100 40 sl (K + 1) xs ∧ Hist ds ls (K + 1) xs ns ∧ (∀ j, j < K -> cntF ds ls j < cntF ds ls (j + 1)) ∧ (∀ a b, a < 10 -> b < 4 -> SetF ds ls (K + 1) a b = SetF ds ls K a b)) ∨
  (e = .returned (.tuple #[.pointer none, .int .i64 6]) ∧ EE))
end Go.Proofs.YtlmmeppifkigeaaGreat
