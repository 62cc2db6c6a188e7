/-
  Reach: start, walked.
-/
import Derived.Test.YtlmmeppifkigeaaGreatXAK
import Derived.Test.YtlmmeppifkigeaaGreatLy
namespace Go.Proofs.YtlmmeppifkigeaaGreat
open Go.RowKit Go.Maps

section
variable {bR R MR most : Nat} {nsR : List Nd} {w : World}
set_option maxHeartbeats 4000000 in
set_option maxRecDepth 100000 in
theorem start_any (hR : Ar bR R MR 14 most w nsR) (A B : Option Addr) (cap cap' : Nat) (ds : List Dv) (ls : List Lk) (hz : Hid (netV ds ls = 0)) (hdv : Hid (∀ d ∈ ds, devC d = 0)) (hD : Hid (Devs bR w (.slice A ds.length cap) ds)) (hL : Hid (Links bR w (.slice B ls.length cap') ls)) :
    Calls Tryz.prog 27 #[.pointer (some ⟨R, 0, none⟩), .agg #[.slice A ds.length cap, .slice B ls.length cap']] w (HOut w bR R MR most nsR ds ls) := by
  have D4 : Below w.heap.size w (((w.alloc (.cells #[.slice A ds.length cap, .slice B ls.length cap'] 25)).alloc (.cells zeros40 100)).alloc (.cells zeros40 100)) := ((Below.refl _ w).alloc (Nat.le_refl _) _).alloc (by simp) _ |>.alloc (by simp; omega) _
  have G4 : Hs bR R MR most nsR w (.slice A ds.length cap) (.slice B ls.length cap') zeros40 nsR (((w.alloc (.cells #[.slice A ds.length cap, .slice B ls.length cap'] 25)).alloc (.cells zeros40 100)).alloc (.cells zeros40 100)) := ⟨hR.below D4, Ext.refl _, hR.kbelow D4, ((Bz.new w _ _ _ rfl).al _).al _, (Bz.new (w.alloc _) _ _ _ (by simp)).al _, Bz.new ((w.alloc _).alloc _) _ _ _ (by simp)⟩
  have I0 : Hid (HInv ds ls 0 nsR (fun _ _ => 0)) := hinv_start hR.wf
  obtain ⟨V, hV⟩ : ∃ V : Array Value → List Nd → World → Prop, V = fun nx ns W => Hs bR R MR most nsR w (.slice A ds.length cap) (.slice B ls.length cap') nx ns W := ⟨_, rfl⟩
  have V4 : V zeros40 nsR (((w.alloc (.cells #[.slice A ds.length cap, .slice B ls.length cap'] 25)).alloc (.cells zeros40 100)).alloc (.cells zeros40 100)) := by rw [hV]; exact G4
  have KP : ∀ {nx : Array Value} {ns : List Nd} {W W' : World}, Below W.heap.size W W' → V nx ns W → V nx ns W' := fun {nx ns W W'} hb h => by rw [hV] at h ⊢; exact h.below hb
  have CN : Hid (∀ {nx : Array Value} {ns : List Nd} {W : World}, V nx ns W → W.cell? ⟨w.heap.size, 0, none⟩ = some (.slice A ds.length cap) ∧ W.cell? ⟨w.heap.size, 1, none⟩ = some (.slice B ls.length cap')) := fun {nx ns W} h => by rw [hV] at h; exact ⟨h.bN.cell 0 _ rfl, h.bN.cell 1 _ rfl⟩
  have DEV : Hid (∀ {nx : Array Value} {ns : List Nd} {W : World} (k : Nat) (d : Dv), ds[k]? = some d → V nx ns W → ∃ b o Ab nb cb Ae nr cr At nt ct, A = some ⟨b, o, none⟩ ∧ W.cell? ⟨b, o + k * 7, none⟩ = some (.string d.name) ∧ W.cell? ⟨b, o + k * 7 + 1, none⟩ = some (.int .i64 d.kind) ∧ W.cell? ⟨b, o + k * 7 + 2, none⟩ = some (.int .i64 d.addr) ∧ W.cell? ⟨b, o + k * 7 + 3, none⟩ = some (.int .u8 (d.pool : Int)) ∧ W.cell? ⟨b, o + k * 7 + 4, none⟩ = some (.slice Ab nb cb) ∧ W.cell? ⟨b, o + k * 7 + 5, none⟩ = some (.slice Ae nr cr) ∧ W.cell? ⟨b, o + k * 7 + 6, none⟩ = some (.slice At nt ct)) := fun {nx ns W} k d hk h => by
    rw [hV] at h
    obtain ⟨b, o, vb, vr, vt, ea, hbb, s1, s2, s3, c0, c1, c2, c3, c4, c5, c6⟩ := hD.out.at hk
    have hbl := hR.kp_below h.kp
    have up : ∀ {j : Nat} {v : Value}, w.cell? ⟨b, j, none⟩ = some v → W.cell? ⟨b, j, none⟩ = some v := fun {j v} hc => (hbl.cell (p := ⟨b, j, none⟩) hbb).trans hc
    obtain ⟨Ab, cb, rfl, q1⟩ := id s1
    obtain ⟨Ae, cr, rfl, q2⟩ := id s2
    obtain ⟨At, ct, rfl, q3⟩ := id s3
    exact ⟨b, o, Ab, _, cb, Ae, _, cr, At, _, ct, ea, up c0, up c1, up c2, up c3, up c4, up c5, up c6⟩
  have hd10 : ds.length ≤ 10 := (netV_links hz.out).1
  obtain ⟨_, hcap, hcm⟩ := hD.out.len
  unfold maxLen at hcm
  clear G4 D4
  obtain ⟨n0, n1⟩ := CN.out V4
  go_enter Tryz.func27, Tryz.ntmps27
  go_wp2_with fail
  go_loopw [16] (fun i wr => ∃ (k : Nat) (nx : Array Value) (ns : List Nd), i = .int .i64 (k : Int) ∧ k ≤ ds.length ∧ V nx ns wr ∧ Hid (∃ sx, SetsV nx sx ∧ HInv ds ls k ns sx ∧ nx.all (·.oneCell') = true ∧ ns.length ≤ nsR.length + 44 * k)) (fun i _ => ds.length - (intOf i).toNat)
  case atStart => exact ⟨0, zeros40, nsR, rfl, by omega, V4, ⟨_, setsV_zero, I0.out, zeros_one, by omega⟩⟩
  case round =>
    clear V4 n0 n1 I0
    obtain ⟨k, nx, ns, rfl, hk, V1, J1⟩ := hrel
    by_cases hlt : k < ds.length
    rotate_left
    · have hke : k = ds.length := by omega
      have GG := V1
      rw [hV] at GG
      have BX : Hid (Bz wr (w.heap.size + 1 + 1) nx 100) := GG.bx
      have BZ : Hid (Bz wr (w.heap.size + 1) zeros40 100) := GG.bz
      have NX : Hid (nx.size = 40 ∧ nx.all (·.oneCell') = true) := by
        obtain ⟨sx, q1, _, q3, _⟩ := J1.out
        exact ⟨q1.1, q3⟩
      have hF : ∀ i, i ≠ w.heap.size + 1 → (wr.setRow (w.heap.size + 1) nx).heap[i]? = wr.heap[i]? := fun i hi => by rw [setRow_heap' wr _ zeros40 nx _ GG.bz i, if_neg (fun e => hi e.symm)]
      have L := (GG.ar.outBox GG.bz (by decide) (by decide)).out
      have n1 : R ≠ w.heap.size + 1 := fun e => L.not (Or.inl e.symm)
      have n2 : MR ≠ w.heap.size + 1 := fun e => L.not (Or.inr (Or.inr (Or.inl e.symm)))
      have n3 : rowOf wr R ≠ w.heap.size + 1 := fun e => L.ne e.symm
      have er : rowOf (wr.setRow (w.heap.size + 1) nx) R = rowOf wr R := rowOf_same (hF R n1)
      have BR : Hid (Bz (wr.setRow (w.heap.size + 1) nx) (w.heap.size + 1) nx 100) := by
        show _ = _
        rw [setRow_heap' wr _ zeros40 nx _ GG.bz, if_pos rfl]
      have FF : Hid (HOut w bR R MR most nsR ds ls (.returned (.tuple #[.agg nx, .int .i64 0])) (wr.setRow (w.heap.size + 1) nx)) := by
        have kp2 : Kp (ca bR R MR 14 most) w (wr.setRow (w.heap.size + 1) nx) := by
          refine ⟨GG.kp.os, GG.kp.tape, GG.kp.output, by simp [World.setRow]; exact GG.kp.size, fun i hi hm hr => (hF i (by omega)).trans (GG.kp.blk i hi hm hr), ?_, fun j hj => ?_⟩
          · rw [show rowOf (wr.setRow (w.heap.size + 1) nx) (ca bR R MR 14 most).a = rowOf wr (ca bR R MR 14 most).a from er]
            exact GG.kp.row
          · rw [← GG.kp.post j hj]
            exact cellB (hF R n1)
        refine ⟨nx, 0, ns, rfl, NX.out, GG.ar.same (hF _ n1) (hF _ n2) (hF _ n3), kp2, GG.ext, fun i c t hb ht => ((hR.outBox hb ht.1 ht.2.1).kp kp2).blk, ?_, Or.inl ⟨rfl, ?_⟩⟩
        · obtain ⟨sx, _, _, _, q4⟩ := J1.out
          rw [hke] at q4
          exact q4
        · obtain ⟨sx, q1, q2, _⟩ := J1.out
          rw [hke] at q2
          exact ⟨sx, q1, q2⟩
      have HN : Hid ((Tryz.prog.info? 100).map (·.size) = some nx.size) := iSets' NX.out.1
      have HZ : Hid (zeros40.size = nx.size) := by show _ = _; rw [NX.out.1]; rfl
      clear GG hF L n1 n2 n3 er hV KP CN DEV J1 hR hD hL hdv
      go_upto_region 12 with fail
      go_step
      refine wpList_load_row rfl 100 _ rfl _ rfl _ nx (0, 0) _ BX.out uSets rfl HN.out ?_
      simp only [Act.put, List.setIfInBounds_toArray, List.set_cons_zero, List.set_cons_succ]
      go_step
      refine wp_store_row 100 _ _ rfl _ nx rfl rfl _ _ BZ.out HN.out HZ.out NX.out.2 ?_
      simp only [Act.put]
      go_wp2_with fail
      refine bodyPost_ret (v := .tuple #[.agg nx, .int .i64 0]) (by simp [results, Tryz.results27, asAddr, run_loadVar_row (wr.setRow (w.heap.size + 1) nx) (w.heap.size + 1) 100 100 nx (0, 0) _ BR.out uSets rfl HN.out]) rfl FF.out
    obtain ⟨d, hxk⟩ : ∃ d, ds[k]? = some d := ⟨_, List.getElem?_eq_getElem hlt⟩
    obtain ⟨b, o, Ab, nb, cb, Ae, nr, cr, At, nt, ct, rfl, c0, c1, c2, c3, c4, c5, c6⟩ := DEV.out k d hxk V1
    have HX : Hid (ds[k]? = some d) := hxk
    have HDC : Hid (devC d = 0) := hdv.out d (List.mem_of_getElem? hxk)
    have k1 : (0 : Int) ≤ (k : Int) := by omega
    have k2 : (k : Int) < (ds.length : Int) := by omega
    have k3 : (k : Int) < 10 := by omega
    have V2 := KP ((Below.refl _ _).alloc (Nat.le_refl _) (.cells #[.string d.name, .int .i64 d.kind, .int .i64 d.addr, .int .u8 (d.pool : Int), .slice Ab nb cb, .slice Ae nr cr, .slice At nt ct] 62)) V1
    have DB : Bz (wr.alloc (.cells #[.string d.name, .int .i64 d.kind, .int .i64 d.addr, .int .u8 (d.pool : Int), .slice Ab nb cb, .slice Ae nr cr, .slice At nt ct] 62)) wr.heap.size #[.string d.name, .int .i64 d.kind, .int .i64 d.addr, .int .u8 (d.pool : Int), .slice Ab nb cb, .slice Ae nr cr, .slice At nt ct] 62 := Bz.new wr _ _ _ rfl
    obtain ⟨n0, n1⟩ := CN.out V2
    have P1 : Hid (Calls Tryz.prog 51 #[.agg #[.slice (some ⟨b, o, none⟩) ds.length cap, .slice B ls.length cap'], .agg #[.int .i64 (k : Int), .int .i64 0]] (wr.alloc (.cells #[.string d.name, .int .i64 d.kind, .int .i64 d.addr, .int .u8 (d.pool : Int), .slice Ab nb cb, .slice Ae nr cr, .slice At nt ct] 62)) fun e w' => e = .returned (.tuple #[placeV (peerF ls k 0), .bool (peerF ls k 0).isSome]) ∧ Below (wr.alloc (.cells #[.string d.name, .int .i64 d.kind, .int .i64 d.addr, .int .u8 (d.pool : Int), .slice Ab nb cb, .slice Ae nr cr, .slice At nt ct] 62)).heap.size (wr.alloc (.cells #[.string d.name, .int .i64 d.kind, .int .i64 d.addr, .int .u8 (d.pool : Int), .slice Ab nb cb, .slice Ae nr cr, .slice At nt ct] 62)) w') := by
      have h := V2
      rw [hV] at h
      have hbl := hR.kp_below h.kp
      exact peer_any _ B _ cap' ls (k : Int) 0 _ ((hL.out.below hbl).mono (Nat.le_trans (Nat.le_trans hR.lowA (Nat.le_of_lt hR.lta)) h.kp.size))
    have DBh : Hid (Bz (wr.alloc (.cells #[.string d.name, .int .i64 d.kind, .int .i64 d.addr, .int .u8 (d.pool : Int), .slice Ab nb cb, .slice Ae nr cr, .slice At nt ct] 62)) wr.heap.size #[.string d.name, .int .i64 d.kind, .int .i64 d.addr, .int .u8 (d.pool : Int), .slice Ab nb cb, .slice Ae nr cr, .slice At nt ct] 62) := DB
    clear hxk DB
    cases hp : peerF ls k 0 with
    | none =>
      rw [hp] at P1
      have J2 : Hid (∃ sx, SetsV nx sx ∧ HInv ds ls (k + 1) ns sx ∧ nx.all (·.oneCell') = true ∧ ns.length ≤ nsR.length + 44 * (k + 1)) := by
        obtain ⟨sx, q1, q2, q3, q4⟩ := J1.out
        exact ⟨sx, q1, hinv_skip q2 HX.out (Or.inr hp), q3, by omega⟩
      clear CN J1 hp DEV
      unfold placeV Option.isSome at P1
      go_wp2_with fail
      with_reducible refine P1.out.mono ?_
      rintro e w5 ⟨rfl, hb5⟩
      have V5 := KP ((Below.refl _ _).alloc (Nat.le_refl _) (.cells #[.int .i64 0, .int .i64 0] 43)) (KP hb5 V2)
      have DB5 : Bz (w5.alloc (.cells #[.int .i64 0, .int .i64 0] 43)) wr.heap.size #[.string d.name, .int .i64 d.kind, .int .i64 d.addr, .int .u8 (d.pool : Int), .slice Ab nb cb, .slice Ae nr cr, .slice At nt ct] 62 := Bz.al ((hb5.block _ DBh.out.lt).trans DBh.out) _
      have d1 := DB5.cell 1 (.int .i64 d.kind) rfl
      clear DB5 hb5 P1 V1 V2 c0 c1 c2 c3 c4 c5 c6 n0 n1
      by_cases hkd : d.kind = 1
      · go_wp2_with fail
        go_roundw
        case rel => exact ⟨k + 1, nx, ns, by go_num, by omega, V5, J2⟩
        case measure => simp [intOf]; omega
      · go_wp2_with fail
        go_roundw
        case rel => exact ⟨k + 1, nx, ns, by go_num, by omega, V5, J2⟩
        case measure => simp [intOf]; omega
    | some t =>
      obtain ⟨a, b', rfl, ha, hb'⟩ := peer_pl hz.out hp
      rw [hp] at P1
      have HP : Hid (peerF ls k 0 = some ((a : Int), (b' : Int))) := hp
      have a10 : (a : Int) < 10 := by omega
      have b4 : (b' : Int) < 4 := by omega
      have HA : Hid (a < 10 ∧ b' < 4) := ⟨ha, hb'⟩
      clear hp ha hb' DEV CN
      unfold placeV Option.isSome at P1
      dsimp only at P1
      by_cases hkd : d.kind = 1
      rotate_left
      · have J2 : Hid (∃ sx, SetsV nx sx ∧ HInv ds ls (k + 1) ns sx ∧ nx.all (·.oneCell') = true ∧ ns.length ≤ nsR.length + 44 * (k + 1)) := by
          obtain ⟨sx, q1, q2, q3, q4⟩ := J1.out
          exact ⟨sx, q1, hinv_skip q2 HX.out (Or.inl hkd), q3, by omega⟩
        clear J1
        go_wp2_with fail
        with_reducible refine P1.out.mono ?_
        rintro e w5 ⟨rfl, hb5⟩
        have V5 := KP ((Below.refl _ _).alloc (Nat.le_refl _) (.cells #[.int .i64 (a : Int), .int .i64 (b' : Int)] 43)) (KP hb5 V2)
        have DB5 : Bz (w5.alloc (.cells #[.int .i64 (a : Int), .int .i64 (b' : Int)] 43)) wr.heap.size #[.string d.name, .int .i64 d.kind, .int .i64 d.addr, .int .u8 (d.pool : Int), .slice Ab nb cb, .slice Ae nr cr, .slice At nt ct] 62 := Bz.al ((hb5.block _ DBh.out.lt).trans DBh.out) _
        have d1 := DB5.cell 1 (.int .i64 d.kind) rfl
        clear DB5 hb5 P1 V1 V2 c0 c1 c2 c3 c4 c5 c6 n0 n1
        go_wp2_with fail
        go_roundw
        case rel => exact ⟨k + 1, nx, ns, by go_num, by omega, V5, J2⟩
        case measure => simp [intOf]; omega
      have HKD : Hid (d.kind = 1) := hkd
      clear hkd
      go_wp2_with fail
      with_reducible refine P1.out.mono ?_
      rintro e w5 ⟨rfl, hb5⟩
      have V5 := KP ((Below.refl _ _).alloc (Nat.le_refl _) (.cells #[.int .i64 (a : Int), .int .i64 (b' : Int)] 43)) (KP hb5 V2)
      obtain ⟨D, hDD⟩ : ∃ D, D = wr.heap.size := ⟨_, rfl⟩
      have DB5 : Bz (w5.alloc (.cells #[.int .i64 (a : Int), .int .i64 (b' : Int)] 43)) wr.heap.size #[.string d.name, .int .i64 d.kind, .int .i64 d.addr, .int .u8 (d.pool : Int), .slice Ab nb cb, .slice Ae nr cr, .slice At nt ct] 62 := Bz.al ((hb5.block _ DBh.out.lt).trans DBh.out) _
      have PB5 : Bz (w5.alloc (.cells #[.int .i64 (a : Int), .int .i64 (b' : Int)] 43)) w5.heap.size #[.int .i64 (a : Int), .int .i64 (b' : Int)] 43 := Bz.new w5 _ _ _ rfl
      have dl : D < w5.heap.size + 1 := by
        have := DB5.lt
        simp at this
        omega
      rw [← hDD] at DB5 ⊢
      clear hb5 P1 V1 V2 c0 c1 c2 c3 c4 c5 c6 n0 n1 DBh hDD
      obtain ⟨⟨_, _⟩, ⟨ad0, ad16⟩, _⟩ := dev_right HDC.out
      have hzz := set_one ad0 ad16
      obtain ⟨zz, hzq⟩ : ∃ zz, zz = setL [d.addr] 0 := ⟨_, rfl⟩
      have HZ : Hid (zz = setL [d.addr] 0) := hzq
      rw [← hzq] at hzz
      have SI : Hid (∀ (k : Nat) W, Bz W k #[.int .i64 d.addr] 3 → Calls Tryz.prog 53 #[.slice (some ⟨k, 0, none⟩) 1 1] W fun e w' => e = .returned (.agg #[.int .u16 (zz : Int), .int .u16 65535, .int .u8 255, .int .u8 255]) ∧ Below W.heap.size W w') := fun k W hk => by
        rw [hzq]
        exact srcIn_any _ [d.addr] W (sl_one hk) (fun y hy => by simp at hy; omega)
      obtain ⟨K, hK⟩ : ∃ K : World → Prop, K = fun W => (V nx ns W ∧ Bz W D #[.string d.name, .int .i64 d.kind, .int .i64 d.addr, .int .u8 (d.pool : Int), .slice Ab nb cb, .slice Ae nr cr, .slice At nt ct] 62 ∧ Bz W w5.heap.size #[.int .i64 (a : Int), .int .i64 (b' : Int)] 43) := ⟨_, rfl⟩
      have SI3 : Hid (Calls Tryz.prog 53 #[.slice (some ⟨w5.heap.size + 1, 0, none⟩) 1 1] ((w5.alloc (.cells #[.int .i64 (a : Int), .int .i64 (b' : Int)] 43)).alloc (.cells #[.int .i64 d.addr] 3)).drew fun e w' => e = .returned (.agg #[.int .u16 (zz : Int), .int .u16 65535, .int .u8 255, .int .u8 255]) ∧ K w' ∧ w'.cell? ⟨D, 2, none⟩ = some (.int .i64 d.addr)) := by
        have Z3 : Bz ((w5.alloc (.cells #[.int .i64 (a : Int), .int .i64 (b' : Int)] 43)).alloc (.cells #[.int .i64 d.addr] 3)).drew (w5.heap.size + 1) #[.int .i64 d.addr] 3 := Bz.new (w5.alloc _) _ _ _ (by simp)
        refine (SI.out _ _ Z3).mono fun e w' ⟨h1, h2⟩ => ⟨h1, ?_⟩
        have h3 : Below (w5.alloc (.cells #[.int .i64 (a : Int), .int .i64 (b' : Int)] 43)).heap.size (w5.alloc (.cells #[.int .i64 (a : Int), .int .i64 (b' : Int)] 43)) ((w5.alloc (.cells #[.int .i64 (a : Int), .int .i64 (b' : Int)] 43)).alloc (.cells #[.int .i64 d.addr] 3)).drew := ((Below.refl _ _).alloc (Nat.le_refl _) _).drew
        have h4 := h3.trans (h2.mono h3.size)
        have q2 := (h4.block _ DB5.lt).trans DB5
        rw [hK]
        exact ⟨⟨KP h4 V5, q2, (h4.block _ PB5.lt).trans PB5⟩, Bz.cell q2 2 _ rfl⟩
      have MB : Hid (∀ W, K W → Calls Tryz.prog 52 #[.pointer (some ⟨R, 0, none⟩), .agg #[.int .u16 (zz : Int), .int .u16 65535, .int .u8 255, .int .u8 255]] W fun e w' => ∃ (ns' : List Nd) (v er : Int), e = .returned (.tuple #[.int .i64 v, .int .i64 er]) ∧ (V nx ns' w' ∧ Bz w' D #[.string d.name, .int .i64 d.kind, .int .i64 d.addr, .int .u8 (d.pool : Int), .slice Ab nb cb, .slice Ae nr cr, .slice At nt ct] 62 ∧ Bz w' w5.heap.size #[.int .i64 (a : Int), .int .i64 (b' : Int)] 43) ∧ Hid (Wf 14 ns ∧ Wf 14 ns' ∧ Ext ns ns' ∧ ns'.length ≤ ns.length + 44) ∧ w'.cell? ⟨D, 2, none⟩ = some (.int .i64 d.addr) ∧ Hid ((er = 0 ∧ ∃ f : Nat, v = (f : Int) ∧ f < ns'.length ∧ ∀ x, ev ns' f x = phi zz 65535 255 255 x) ∨ (er = 6 ∧ v = 0 ∧ most ≤ ns.length + 44))) := fun W h => by
        rw [hK] at h
        obtain ⟨h1, h2, h3⟩ := h
        rw [hV] at h1 ⊢
        refine (build_match h1.ar (Nat.le_refl _) zz 65535 255 255 hzz (by omega) (by omega) (by omega)).mono fun e w' ⟨ns', A1, K1, X1, L1, hv⟩ => ?_
        have q2 := h1.tf K1 h2 (by decide)
        have q3 := h1.tf K1 h3 (by decide)
        have q4 := q2.cell 2 (.int .i64 d.addr) rfl
        rcases hv with ⟨f, he, hf, _, hx⟩ | ⟨he, hm6⟩
        · exact ⟨ns', f, 0, he, ⟨h1.step A1 K1 X1, q2, q3⟩, ⟨h1.ar.wf, A1.wf, X1, L1⟩, q4, Or.inl ⟨rfl, f, rfl, hf, hx⟩⟩
        · exact ⟨ns', 0, 6, he, ⟨h1.step A1 K1 X1, q2, q3⟩, ⟨h1.ar.wf, A1.wf, X1, L1⟩, q4, Or.inr ⟨rfl, rfl, by omega⟩⟩
      have SX : Hid (∀ {nx : Array Value} {ns : List Nd} {W : World} (j : Nat) (u : Value), V nx ns W → V (nx.setIfInBounds j u) ns (W.setCell ⟨w.heap.size + 1 + 1, j, none⟩ u)) := fun {nx ns W} j u h => by
        rw [hV] at h ⊢
        exact h.setx j u
      have XC : Hid (∀ {nx : Array Value} {ns : List Nd} {W : World} (j : Nat), j < nx.size → V nx ns W → (∃ v, W.cell? ⟨w.heap.size + 1 + 1, j, none⟩ = some v) ∧ W.frozen? ⟨w.heap.size + 1 + 1, j, none⟩ = false) := fun {nx ns W} j hj h => by
        rw [hV] at h
        exact ⟨⟨_, h.bx.cell j _ (Array.getElem?_eq_getElem hj)⟩, h.bx.free j⟩
      have EOUT : Hid (∀ {nx : Array Value} {ns : List Nd} {W : World}, V nx ns W → ns.length ≤ nsR.length + 44 * ds.length → most ≤ nsR.length + 44 * ds.length → Hid (Bz W (w.heap.size + 1) zeros40 100) ∧ Hid (HOut w bR R MR most nsR ds ls (.returned (.tuple #[.agg zeros40, .int .i64 6])) W)) := fun {nx ns W} h hl4 he4 => by
        rw [hV] at h
        exact ⟨h.bz, zeros40, 6, ns, rfl, ⟨rfl, zeros_one⟩, h.ar, h.kp, h.ext, fun i c t hb ht => ((hR.outBox hb ht.1 ht.2.1).kp h.kp).blk, hl4, Or.inr ⟨rfl, rfl, he4⟩⟩
      have d1 := DB5.cell 1 (.int .i64 d.kind) rfl
      have d2 := DB5.cell 2 (.int .i64 d.addr) rfl
      rw [HKD.out] at d1
      clear SI hV hK V5 DB5 PB5 hzq hzz hR hD hL hdv HDC
      go_wp2_with fail
      go_region_held3 (fun W => W.cell? ⟨D, 2, none⟩ = some (.int .i64 d.addr)) (go_keep)
        ((first
          | (go_at_call 53; (with_reducible refine SI3.out.mono ?_); rintro e w6 ⟨rfl, K6, y2⟩; skip)
          | (go_at_call 52; (with_reducible refine (MB.out _ K6).mono ?_); rintro e w8 ⟨ns', v, er, rfl, ⟨V8, DB8, PB8⟩, X8, z2, hv8⟩; skip)))
      all_goals
        clear SI3 MB K6 y2 z2 d1 d2 DB8
        by_cases he : er = 0
        · subst he
          have HV : Hid (∃ f : Nat, v = (f : Int) ∧ f < ns'.length ∧ ∀ x, ev ns' f x = phi zz 65535 255 255 x) := by
            rcases hv8.out with ⟨_, h⟩ | ⟨h, _⟩
            · exact h
            · cases h
          obtain ⟨f, rfl, hf, hfx⟩ := HV.out
          have J2 : Hid (∃ sx, SetsV (nx.setIfInBounds (a * 4 + b') (.int .i64 (f : Int))) sx ∧ HInv ds ls (k + 1) ns' sx ∧ (nx.setIfInBounds (a * 4 + b') (.int .i64 (f : Int))).all (·.oneCell') = true ∧ ns'.length ≤ nsR.length + 44 * (k + 1)) := by
            obtain ⟨sx, q1, q2, q3, q4⟩ := J1.out
            obtain ⟨y1, y2, y3, y4⟩ := X8.out
            refine ⟨updS sx a b' f, q1.upd HA.out.1 HA.out.2, hinv_put q2 (netV_links hz.out).2.2.1 y1 y2 y3 HX.out HKD.out HP.out hf (fun x => ?_), all_set q3 _ rfl, by omega⟩
            rw [hfx x, HZ.out]
          clear hf hfx HV hv8
          have hsz : a * 4 + b' < nx.size := by
            obtain ⟨sx, q1, _⟩ := J1.out
            have := q1.1
            have := HA.out.1
            have := HA.out.2
            omega
          have V8d := KP (Below.refl _ _).drew V8
          obtain ⟨⟨vv, cx⟩, fx⟩ := XC.out (a * 4 + b') hsz V8d
          have V9 := SX.out (a * 4 + b') (.int .i64 (f : Int)) V8d
          have g0 : w8.drew.cell? ⟨w5.heap.size, 0, none⟩ = some (.int .i64 (a : Int)) := PB8.cell 0 _ rfl
          have g1 : w8.drew.cell? ⟨w5.heap.size, 1, none⟩ = some (.int .i64 (b' : Int)) := PB8.cell 1 _ rfl
          have a0 : (0 : Int) ≤ (a : Int) := by omega
          have b0 : (0 : Int) ≤ (b' : Int) := by omega
          clear XC SX V8 V8d PB8 X8 J1 EOUT
          go_wp2_with fail
          go_region
          all_goals
            go_wp2_with fail
            go_roundw
            case rel => exact ⟨k + 1, _, ns', by go_num, by omega, V9, J2⟩
            case measure => simp [intOf]; omega
        · have HE : Hid (er = 6) := by
            rcases hv8.out with ⟨h, _⟩ | ⟨h, _⟩
            · exact absurd h he
            · exact h
          obtain rfl := HE.out
          have LB : Hid (ns'.length ≤ nsR.length + 44 * ds.length ∧ most ≤ nsR.length + 44 * ds.length) := by
            obtain ⟨_, _, _, _, q4⟩ := J1.out
            obtain ⟨_, _, _, y4⟩ := X8.out
            refine ⟨by omega, ?_⟩
            rcases hv8.out with ⟨h, _⟩ | ⟨_, _, h⟩
            · exact absurd h (by decide)
            · omega
          obtain ⟨ZB, FF⟩ := EOUT.out V8 LB.out.1 LB.out.2
          clear LB
          clear XC SX HE he hv8
          go_upto_region 9 with fail
          go_step
          iterate 7 go_step
          refine wp_store_row 100 _ _ rfl _ zeros40 rfl rfl _ _ ZB.out iSets (by rfl) zeros_one ?_
          rw [setRow_self ZB.out]
          simp only [Act.put]
          go_wp2_with fail
          refine bodyPost_ret (v := .tuple #[.agg zeros40, .int .i64 6]) (by simp [results, Tryz.results27, asAddr, run_loadVar_row w8 (w.heap.size + 1) 100 100 zeros40 (0, 0) _ ZB.out uSets rfl iSets]) rfl FF.out

end
end Go.Proofs.YtlmmeppifkigeaaGreat

namespace Go.Proofs.YtlmmeppifkigeaaGreat
open Go.RowKit Go.Maps

theorem exF_never (i j : Nat) : ∀ k, exF (fun _ => false) i j k = fun _ => false
  | 0 => rfl
  | k + 1 => by funext x; show exF _ i j k _ = false; rw [exF_never i j k]
theorem anF_never (i : Nat) : ∀ k, anF (fun _ => false) i k = fun _ => false
  | 0 => rfl
  | k + 1 => by funext x; show (anF _ i k _ || anF _ i k _) = false; rw [anF_never i k]; rfl
theorem flF_never : flF (fun _ => false) = fun _ => false := by
  unfold flF
  rw [exF_never, exF_never]
/-- Who gets nothing sends nothing. -/
theorem sendF_never (d : Dv) (q : Int) (x : Env) : sendF d q (fun _ => false) (fun _ => false) (fun _ => false) (fun _ => false) x = false := by
  unfold sendF
  split
  · simp [orP]
  split
  · split <;> simp
  split
  · split <;> simp [anF_never]
  split
  · split <;> simp [anF_never]
  · rfl

open Classical in
/-- The sets of a round: which packets a place may have seen. -/
noncomputable def SetF (ds : List Dv) (ls : List Lk) : Nat → Nat → Nat → Env → Bool
  | 0 => fun a b x => decide (HostBy ds ls ds.length ((a : Int), (b : Int)) x)
  | k + 1 => fun a b x => decide (SetF ds ls k a b x = true ∨ SentBy ds ls (fun _ => False) (SetF ds ls k) ds.length 0 ((a : Int), (b : Int)) x)
section
variable {ds : List Dv} {ls : List Lk} {ns nsR : List Nd} {sw sn sx : Nat → Nat → Nat} {k : Nat}
theorem setF_zero (a b : Nat) (x : Env) : SetF ds ls 0 a b x = true ↔ HostBy ds ls ds.length ((a : Int), (b : Int)) x := by
  unfold SetF
  exact @decide_eq_true_iff _ (Classical.propDecidable _)
theorem setF_succ (k a b : Nat) (x : Env) : SetF ds ls (k + 1) a b x = true ↔ SetF ds ls k a b x = true ∨ SentBy ds ls (fun _ => False) (SetF ds ls k) ds.length 0 ((a : Int), (b : Int)) x := by
  rw [SetF]
  simp only [decide_eq_true_eq]
/-- New's loop: the sets of the round that is reached, and those of the one before. -/
structure NInv (ds : List Dv) (ls : List Lk) (k : Nat) (ns : List Nd) (sw sn : Nat → Nat → Nat) : Prop where
  ltw : ∀ a b, a < 10 → b < 4 → sw a b < ns.length
  ltn : ∀ a b, a < 10 → b < 4 → sn a b < ns.length
  fn : ∀ a b, a < 10 → b < 4 → ev ns (sn a b) = SetF ds ls k a b
  was : (k = 0 ∧ ∀ a b, a < 10 → b < 4 → ev ns (sw a b) = fun _ => false) ∨ ∃ j, k = j + 1 ∧ ∀ a b, a < 10 → b < 4 → ev ns (sw a b) = SetF ds ls j a b
theorem ninv_start (h : HInv ds ls ds.length ns sn) (hW : Wf 14 ns) : NInv ds ls 0 ns (fun _ _ => 0) sn := by
  refine ⟨fun _ _ _ _ => Nat.lt_of_lt_of_le (by omega) hW.len, h.lt, fun a b ha hb => funext fun x => ?_, Or.inl ⟨rfl, fun _ _ _ _ => funext fun x => ev0 _ x⟩⟩
  rw [Bool.eq_iff_iff, h.fn a b ha hb x, setF_zero]
/-- What grow makes of a round's sets are the next round's. -/
theorem ninv_grow (h : NInv ds ls k nsR sw sn) (h10 : ds.length ≤ 10) (G : GInv ds ls (fun i => sn i 0 = sw i 0 ∧ sn i 1 = sw i 1 ∧ sn i 2 = sw i 2 ∧ sn i 3 = sw i 3) (fun a b => ev nsR (sn a b)) ds.length 0 ns sx) (a b : Nat) (ha : a < 10) (hb : b < 4) : ev ns (sx a b) = SetF ds ls (k + 1) a b := by
  funext x
  rw [Bool.eq_iff_iff, G.fn a b ha hb x, setF_succ, h.fn a b ha hb]
  refine ⟨?_, ?_⟩
  · rintro (h1 | ⟨i, q, d, h1, _, h3, h4, h5, h6⟩)
    · exact Or.inl h1
    · have hi : i < 10 := by
        have := (List.getElem?_eq_some_iff.1 h3).1
        omega
      dsimp only at h6
      rw [h.fn i 0 hi (by omega), h.fn i 1 hi (by omega), h.fn i 2 hi (by omega), h.fn i 3 hi (by omega)] at h6
      exact Or.inr ⟨i, q, d, h1, fun h => h, h3, h4, h5, h6⟩
  · rintro (h1 | ⟨i, q, d, h1, _, h3, h4, h5, h6⟩)
    · exact Or.inl h1
    · have hi' := (List.getElem?_eq_some_iff.1 h3).1
      have hi : i < 10 := by omega
      by_cases hs : sn i 0 = sw i 0 ∧ sn i 1 = sw i 1 ∧ sn i 2 = sw i 2 ∧ sn i 3 = sw i 3
      · obtain ⟨s0, s1, s2, s3⟩ := hs
        rw [← h.fn i 0 hi (by omega), ← h.fn i 1 hi (by omega), ← h.fn i 2 hi (by omega), ← h.fn i 3 hi (by omega), s0, s1, s2, s3] at h6
        rcases h.was with ⟨_, hw⟩ | ⟨j, rfl, hw⟩
        · rw [hw i 0 hi (by omega), hw i 1 hi (by omega), hw i 2 hi (by omega), hw i 3 hi (by omega), sendF_never] at h6
          cases h6
        · rw [hw i 0 hi (by omega), hw i 1 hi (by omega), hw i 2 hi (by omega), hw i 3 hi (by omega)] at h6
          exact Or.inl ((setF_succ j a b x).2 (Or.inr ⟨i, q, d, h1, fun h => h, h3, h4, h5, h6⟩))
      · rw [← h.fn i 0 hi (by omega), ← h.fn i 1 hi (by omega), ← h.fn i 2 hi (by omega), ← h.fn i 3 hi (by omega)] at h6
        exact Or.inr ⟨i, q, d, h1, hs, h3, h4, h5, h6⟩
/-- The next round of New's loop. -/
theorem ninv_next (h : NInv ds ls k nsR sw sn) (h10 : ds.length ≤ 10) (hW : Wf 14 nsR) (hW' : Wf 14 ns) (X : Ext nsR ns) (G : GInv ds ls (fun i => sn i 0 = sw i 0 ∧ sn i 1 = sw i 1 ∧ sn i 2 = sw i 2 ∧ sn i 3 = sw i 3) (fun a b => ev nsR (sn a b)) ds.length 0 ns sx) : NInv ds ls (k + 1) ns sn sx := by
  have hlen := X.len
  refine ⟨fun a b ha hb => Nat.lt_of_lt_of_le (h.ltn a b ha hb) hlen, G.lt, ninv_grow h h10 G, Or.inr ⟨k, rfl, fun a b ha hb => ?_⟩⟩
  rw [← h.fn a b ha hb]
  exact funext (X.ev hW hW' _ (h.ltn a b ha hb))
/-- If no number changed, the sets are closed. -/
theorem ninv_end (h : NInv ds ls k nsR sw sn) (h10 : ds.length ≤ 10) (hW : Wf 14 nsR) (hW' : Wf 14 ns) (X : Ext nsR ns) (G : GInv ds ls (fun i => sn i 0 = sw i 0 ∧ sn i 1 = sw i 1 ∧ sn i 2 = sw i 2 ∧ sn i 3 = sw i 3) (fun a b => ev nsR (sn a b)) ds.length 0 ns sx) (he : ∀ a b, a < 10 → b < 4 → sx a b = sn a b) (a b : Nat) (ha : a < 10) (hb : b < 4) : SetF ds ls (k + 1) a b = SetF ds ls k a b := by
  rw [← ninv_grow h h10 G a b ha hb, he a b ha hb, ← h.fn a b ha hb]
  exact funext (X.ev hW hW' _ (h.ltn a b ha hb))
/-- A setting by its number. -/
def envN (n : Nat) : Env := fun v => n.testBit v
/-- How many packets are in a round's sets. -/
noncomputable def cntF (ds : List Dv) (ls : List Lk) (k : Nat) : Nat :=
  (List.range 655360).countP fun n => SetF ds ls k (n / 65536) (n / 16384 % 4) (envN (n % 16384))
theorem cntF_le (k : Nat) : cntF ds ls k ≤ 655360 := by
  unfold cntF
  exact Nat.le_trans List.countP_le_length (by simp)
theorem countP_less {p q : Nat → Bool} : ∀ {l : List Nat}, (∀ n ∈ l, p n = true → q n = true) → ∀ n0 ∈ l, q n0 = true → p n0 = false → l.countP p < l.countP q
  | [], _, _, h0, _, _ => by cases h0
  | y :: l, h, n0, h0, h1, h2 => by
    have hle : l.countP p ≤ l.countP q := List.countP_mono_left fun n hn => h n (List.mem_cons_of_mem _ hn)
    rcases List.mem_cons.1 h0 with rfl | h0
    · simp only [List.countP_cons, h1, h2]
      simp
      omega
    · have ih := countP_less (fun n hn => h n (List.mem_cons_of_mem _ hn)) n0 h0 h1 h2
      have hy := h y List.mem_cons_self
      simp only [List.countP_cons]
      cases hp : p y
      · simp
        omega
      · rw [hy hp]
        simp
        omega
theorem env_codes (x : Env) : ∀ k, ∃ n, n < 2 ^ k ∧ ∀ v, v < k → n.testBit v = x v
  | 0 => ⟨0, by simp, fun v hv => by omega⟩
  | k + 1 => by
    obtain ⟨n, hn, hx⟩ := env_codes x k
    have hp : 2 ^ (k + 1) = 2 ^ k + 2 ^ k := by omega
    cases hk : x k
    · refine ⟨n, by omega, fun v hv => ?_⟩
      by_cases e : v = k
      · rw [e, hk]
        exact Nat.testBit_lt_two_pow hn
      · exact hx v (by omega)
    · refine ⟨2 ^ k + n, by omega, fun v hv => ?_⟩
      by_cases e : v = k
      · rw [e, hk, Nat.testBit_two_pow_add_eq, Nat.testBit_lt_two_pow hn]
        rfl
      · rw [Nat.testBit_two_pow_add_gt (by omega)]
        exact hx v (by omega)
theorem env_code (x : Env) : ∃ n, n < 16384 ∧ ∀ v, v < 14 → envN n v = x v := env_codes x 14
/-- Where a number changed, there is a packet more. -/
theorem cnt_more (h : NInv ds ls k nsR sw sn) (h10 : ds.length ≤ 10) (hW : Wf 14 nsR) (hW' : Wf 14 ns) (X : Ext nsR ns) (G : GInv ds ls (fun i => sn i 0 = sw i 0 ∧ sn i 1 = sw i 1 ∧ sn i 2 = sw i 2 ∧ sn i 3 = sw i 3) (fun a b => ev nsR (sn a b)) ds.length 0 ns sx) {a b : Nat} (ha : a < 10) (hb : b < 4) (hne : sx a b ≠ sn a b) : cntF ds ls k < cntF ds ls (k + 1) := by
  have hlen := X.len
  have hln := Nat.lt_of_lt_of_le (h.ltn a b ha hb) hlen
  have hsn : ev ns (sn a b) = SetF ds ls k a b := by
    rw [← h.fn a b ha hb]
    exact funext (X.ev hW hW' _ (h.ltn a b ha hb))
  obtain ⟨e, he⟩ : ∃ e, ev ns (sx a b) e ≠ ev ns (sn a b) e := Classical.byContradiction fun hc => hne (canon hW' (G.lt a b ha hb) hln fun e => Classical.byContradiction fun h2 => hc ⟨e, h2⟩)
  obtain ⟨n, hn, hx⟩ := env_code e
  have d1 := ev_dep hW' _ (G.lt a b ha hb) (envN n) e fun i _ hi => hx i hi
  have d2 := ev_dep hW' _ hln (envN n) e fun i _ hi => hx i hi
  rw [← d1, ← d2, ninv_grow h h10 G a b ha hb, hsn] at he
  have hup : ∀ a b x, SetF ds ls k a b x = true → SetF ds ls (k + 1) a b x = true := fun a b x h => (setF_succ k a b x).2 (Or.inl h)
  have q1 : (a * 65536 + b * 16384 + n) / 65536 = a := by omega
  have q2 : (a * 65536 + b * 16384 + n) / 16384 % 4 = b := by omega
  have q3 : (a * 65536 + b * 16384 + n) % 16384 = n := by omega
  refine countP_less (fun m _ hm => hup _ _ _ hm) (a * 65536 + b * 16384 + n) (List.mem_range.2 (by omega)) ?_ ?_
  · show SetF ds ls (k + 1) _ _ _ = true
    rw [q1, q2, q3]
    cases h1 : SetF ds ls (k + 1) a b (envN n)
    · cases h2 : SetF ds ls k a b (envN n)
      · rw [h1, h2] at he
        exact absurd rfl he
      · rw [hup _ _ _ h2] at h1
        cases h1
    · rfl
  · show SetF ds ls k _ _ _ = false
    rw [q1, q2, q3]
    cases h2 : SetF ds ls k a b (envN n)
    · rfl
    · rw [h2, hup _ _ _ h2] at he
      exact absurd rfl he
end
end Go.Proofs.YtlmmeppifkigeaaGreat

namespace Go.Proofs.YtlmmeppifkigeaaGreat
open Go.RowKit Go.Maps

/-- An arena's cells, written behind one another with a slice that is none: that is reach.Reach's arena. -/
theorem Ar.copied {base a M vars most : Nat} {w : World} {ns : List Nd} (h : Ar base a M vars most w ns) :
    ∃ g cap, w.cell? ⟨a, 0, none⟩ = some (.int .i64 (vars : Int)) ∧ w.cell? ⟨a, 1, none⟩ = some (.int .i64 (most : Int)) ∧ w.cell? ⟨a, 2, none⟩ = some (.slice (some ⟨g, 0, none⟩) ns.length cap) ∧ w.cell? ⟨a, 3, none⟩ = some (.map (some M)) ∧
      ∀ W, Below w.heap.size w W → Ar base W.heap.size M vars most (W.alloc (.cells #[.int .i64 (vars : Int), .int .i64 (most : Int), .slice (some ⟨g, 0, none⟩) ns.length cap, .map (some M), .slice none 0 0] 96)) ns := by
  obtain ⟨g, cap, cs, t, hb, hc, hrow⟩ := h.blk
  refine ⟨g, cap, ?_, ?_, ?_, ?_, fun W hW => ?_⟩
  · rw [cell_of_row w a 0 _ _ _ hb]; exact hc.c0
  · rw [cell_of_row w a 1 _ _ _ hb]; exact hc.c1
  · rw [cell_of_row w a 2 _ _ _ hb]; exact hc.c2
  · rw [cell_of_row w a 3 _ _ _ hb]; exact hc.c3
  have hlo : base ≤ W.heap.size := Nat.le_trans h.lowA (Nat.le_trans (Nat.le_of_lt h.lta) hW.size)
  refine ⟨h.wf, h.le, h.vars1, h.vars16, h.most4, hlo, h.lowM, ⟨g, cap, _, _, Go.heap_alloc_new W _, ⟨rfl, rfl, rfl, rfl, Or.inr rfl⟩, ?_⟩, ?_⟩
  · refine ⟨hrow.1, ?_⟩
    rcases hrow.2 with ⟨hv, _⟩ | ⟨g', cap', cur, hv, hbase, hg, rest⟩
    · cases hv
    · simp only [Value.slice.injEq, Option.some.injEq, Addr.mk.injEq, and_true, true_and] at hv
      obtain ⟨rfl, rfl⟩ := hv
      have hlt : g < w.heap.size := (Array.getElem?_eq_some_iff.1 hg).1
      exact .inr ⟨g, cap, cur, rfl, hbase, (Below.heap_alloc W _ g (Nat.lt_of_lt_of_le hlt hW.size)).trans ((hW.block g hlt).trans hg), rest⟩
  · obtain ⟨num, hm, hn⟩ := h.map
    exact ⟨num, hm.same ((Below.heap_alloc W _ M (Nat.lt_of_lt_of_le h.ltM hW.size)).trans (hW.block M h.ltM)), hn⟩
end Go.Proofs.YtlmmeppifkigeaaGreat

namespace Go.Proofs.YtlmmeppifkigeaaGreat
open Go.RowKit

/-- Two links in blocks of a call's own, one behind the other. -/
def LM (w : World) (n : Nat) (a b c d e f g h : Value) : Prop := Lk4 w n a b c d ∧ Lk4 w (n + 1) e f g h
theorem LM.cells {w : World} {n : Nat} {a b c d e f g h : Value} (H : LM w n a b c d e f g h) : w.cell? ⟨n, 0, none⟩ = some a ∧ w.cell? ⟨n, 1, none⟩ = some b ∧ w.cell? ⟨n, 2, none⟩ = some c ∧ w.cell? ⟨n, 3, none⟩ = some d ∧ w.cell? ⟨n + 1, 0, none⟩ = some e ∧ w.cell? ⟨n + 1, 1, none⟩ = some f ∧ w.cell? ⟨n + 1, 2, none⟩ = some g ∧ w.cell? ⟨n + 1, 3, none⟩ = some h := by
  obtain ⟨⟨_, h1, h2, h3, h4⟩, ⟨_, h5, h6, h7, h8⟩⟩ := H
  exact ⟨h1, h2, h3, h4, h5, h6, h7, h8⟩
theorem LM.keep {W w' : World} {n : Nat} {a b c d e f g h : Value} (hb : Below W.heap.size W w') (H : LM W n a b c d e f g h) : LM w' n a b c d e f g h := ⟨H.1.below hb H.1.1, H.2.below hb H.2.1⟩
theorem LM.drew {w : World} {n : Nat} {a b c d e f g h : Value} (H : LM w n a b c d e f g h) : LM w.drew n a b c d e f g h := H
theorem lm_new (w : World) (a b c d e f g h : Value) (t : TypeId) : LM ((w.alloc (.cells #[a, b, c, d] t)).alloc (.cells #[e, f, g, h] t)) w.heap.size a b c d e f g h := by
  refine ⟨(lk4_new w a b c d t).alloc _, ?_⟩
  have := lk4_new (w.alloc (.cells #[a, b, c, d] t)) e f g h t
  rw [World.size_alloc] at this
  exact this
set_option maxHeartbeats 4000000 in
set_option maxRecDepth 100000 in
theorem meet_0 (la lp lb lq ma mp mb mq : Int) (w : World) (h0 : ((la == ma) && (lp == mp)) = true) : Calls Tryz.prog 85 #[lkA la lp lb lq, lkA ma mp mb mq] w fun e w' => e = .returned (.bool true) ∧ Below w.heap.size w w' := by
  have D0 := (Below.alN (Below.alN (Below.refl w.heap.size w) (.cells #[.int .i64 la, .int .i64 lp, .int .i64 lb, .int .i64 lq] 64)) (.cells #[.int .i64 ma, .int .i64 mp, .int .i64 mb, .int .i64 mq] 64)).drew
  have M0 := (lm_new w (.int .i64 la) (.int .i64 lp) (.int .i64 lb) (.int .i64 lq) (.int .i64 ma) (.int .i64 mp) (.int .i64 mb) (.int .i64 mq) 64).drew
  have FL : Hid (∀ w, Calls Tryz.prog 81 #[lkA la lp lb lq] w fun e w' => e = .returned (plA la lp) ∧ Below w.heap.size w w') := fun w => from_any _ _ _ _ w
  have TL : Hid (∀ w, Calls Tryz.prog 82 #[lkA la lp lb lq] w fun e w' => e = .returned (plA lb lq) ∧ Below w.heap.size w w') := fun w => to_any _ _ _ _ w
  have FM : Hid (∀ w, Calls Tryz.prog 81 #[lkA ma mp mb mq] w fun e w' => e = .returned (plA ma mp) ∧ Below w.heap.size w w') := fun w => from_any _ _ _ _ w
  have TM : Hid (∀ w, Calls Tryz.prog 82 #[lkA ma mp mb mq] w fun e w' => e = .returned (plA mb mq) ∧ Below w.heap.size w w') := fun w => to_any _ _ _ _ w
  have P0 : ∀ w, (binOp .eql 43 (plA la lp) (plA ma mp)).run Tryz.prog w = .ok (.bool true) w := fun w => by rw [place_eq, h0]
  clear h0
  go_enter Tryz.func85, Tryz.ntmps85
  go_wp2_with fail
  refine wp_region_held_drew (S := (fun w' => w'.cell? ⟨w.heap.size, 0, none⟩ = some (.int .i64 la) ∧ w'.cell? ⟨w.heap.size, 1, none⟩ = some (.int .i64 lp) ∧ w'.cell? ⟨w.heap.size, 2, none⟩ = some (.int .i64 lb) ∧ w'.cell? ⟨w.heap.size, 3, none⟩ = some (.int .i64 lq) ∧ w'.cell? ⟨w.heap.size + 1, 0, none⟩ = some (.int .i64 ma) ∧ w'.cell? ⟨w.heap.size + 1, 1, none⟩ = some (.int .i64 mp) ∧ w'.cell? ⟨w.heap.size + 1, 2, none⟩ = some (.int .i64 mb) ∧ w'.cell? ⟨w.heap.size + 1, 3, none⟩ = some (.int .i64 mq))) (by kernel_rfl) (LM.cells (n := w.heap.size) (by assumption)) (fun hHeld => ?_)
  refine' tk 0 rfl (by kernel_rfl) (fun _ _ _ h => h) (by rfl) (by assumption) ?y1 ?r1
  case y1 => (intro w h; (try dsimp only at h); go_simp; (try with_reducible rfl))
  try simp only [lays]
  refine' tk 2 rfl (by kernel_rfl) (fun _ _ _ h => h) (by rfl) (by assumption) ?y2 ?r2
  case y2 => (intro w h; (try dsimp only at h); go_simp; (try with_reducible rfl))
  try simp only [lays]
  refine wpAnyH_ready (rs := [1]) (by kernel_rfl) (by simp) (AllReadyH.cons rfl (fun K hK => ?_) AllReadyH.nil)
  go_simp
  refine (FL.out _).mono ?_; rintro e wz ⟨rfl, hbz⟩; have Dz := chnN (W0 := w) hbz (by assumption); have Pz := LM.keep (n := w.heap.size) hbz (by assumption); clear hbz
  try go_wp2_with fail
  clear hHeld
  refine hK.out _ _ (LM.cells (n := w.heap.size) (by assumption)) (fun hHeld => ?_)
  clear hK K
  try simp only [lays]
  refine wpAnyH_ready (rs := [3]) (by kernel_rfl) (by simp) (AllReadyH.cons rfl (fun K hK => ?_) AllReadyH.nil)
  go_simp
  refine (FM.out _).mono ?_; rintro e wz ⟨rfl, hbz⟩; have Dz := chnN (W0 := w) hbz (by assumption); have Pz := LM.keep (n := w.heap.size) hbz (by assumption); clear hbz
  try go_wp2_with fail
  clear hHeld
  refine hK.out _ _ (LM.cells (n := w.heap.size) (by assumption)) (fun hHeld => ?_)
  clear hK K
  try simp only [lays]
  refine' tk 4 rfl (by kernel_rfl) (fun _ _ _ h => h) (by rfl) (by assumption) ?y5 ?r5
  case y5 => (intro w h; (try dsimp only at h); go_simp; (try with_reducible rfl))
  try simp only [lays]
  refine' tk 5 rfl (by kernel_rfl) (fun _ _ _ h => h) (by rfl) (by assumption) ?y6 ?r6
  case y6 => (intro w h; (try dsimp only at h); go_simp; (try with_reducible rfl))
  try simp only [lays]
  refine' tk0 6 rfl (by kernel_rfl) (fun _ _ _ h => h) (by rfl) (by assumption) ?_
  try simp only [lays]
  refine' tk0 7 rfl (by kernel_rfl) (fun _ _ _ h => h) (by rfl) (by assumption) ?_
  try simp only [lays]
  refine' tk0 8 rfl (by kernel_rfl) (fun _ _ _ h => h) (by rfl) (by assumption) ?_
  try simp only [lays]
  refine' tk0 9 rfl (by kernel_rfl) (fun _ _ _ h => h) (by rfl) (by assumption) ?_
  try simp only [lays]
  refine' tk0 10 rfl (by kernel_rfl) (fun _ _ _ h => h) (by rfl) (by assumption) ?_
  try simp only [lays]
  refine' tk 11 rfl (by kernel_rfl) (fun _ _ _ h => h) (by rfl) (by assumption) ?y12 ?r12
  case y12 => (intro w h; (try dsimp only at h); go_simp; (try with_reducible rfl))
  try simp only [lays]
  refine' tk 12 rfl (by kernel_rfl) (fun _ _ _ h => h) (by rfl) (by assumption) ?y13 ?r13
  case y13 => (intro w h; (try dsimp only at h); go_simp; (try with_reducible rfl))
  try simp only [lays]
  refine' tk0 13 rfl (by kernel_rfl) (fun _ _ _ h => h) (by rfl) (by assumption) ?_
  try simp only [lays]
  refine' tk0 14 rfl (by kernel_rfl) (fun _ _ _ h => h) (by rfl) (by assumption) ?_
  try simp only [lays]
  refine' tk0 15 rfl (by kernel_rfl) (fun _ _ _ h => h) (by rfl) (by assumption) ?_
  try simp only [lays]
  refine' tk0 16 rfl (by kernel_rfl) (fun _ _ _ h => h) (by rfl) (by assumption) ?_
  try simp only [lays]
  refine' tk0 17 rfl (by kernel_rfl) (fun _ _ _ h => h) (by rfl) (by assumption) ?_
  try simp only [lays]
  refine' tk 18 rfl (by kernel_rfl) (fun _ _ _ h => h) (by rfl) (by assumption) ?y19 ?r19
  case y19 => (intro w h; (try dsimp only at h); go_simp; (try with_reducible rfl))
  try simp only [lays]
  refine' tk 19 rfl (by kernel_rfl) (fun _ _ _ h => h) (by rfl) (by assumption) ?y20 ?r20
  case y20 => (intro w h; (try dsimp only at h); go_simp; (try with_reducible rfl))
  try simp only [lays]
  refine' tk0 20 rfl (by kernel_rfl) (fun _ _ _ h => h) (by rfl) (by assumption) ?_
  try simp only [lays]
  refine' tk0 21 rfl (by kernel_rfl) (fun _ _ _ h => h) (by rfl) (by assumption) ?_
  try simp only [lays]
  refine' tk0 22 rfl (by kernel_rfl) (fun _ _ _ h => h) (by rfl) (by assumption) ?_
  try simp only [lays]
  refine' tk0 23 rfl (by kernel_rfl) (fun _ _ _ h => h) (by rfl) (by assumption) ?_
  try simp only [lays]
  refine' tk0 24 rfl (by kernel_rfl) (fun _ _ _ h => h) (by rfl) (by assumption) ?_
  try simp only [lays]
  refine' tk 25 rfl (by kernel_rfl) (fun _ _ _ h => h) (by rfl) (by assumption) ?y26 ?r26
  case y26 => (intro w h; (try dsimp only at h); go_simp; (try with_reducible rfl))
  try simp only [lays]
  refine' tk 26 rfl (by kernel_rfl) (fun _ _ _ h => h) (by rfl) (by assumption) ?y27 ?r27
  case y27 => (intro w h; (try dsimp only at h); go_simp; (try with_reducible rfl))
  try simp only [lays]
  refine wpAnyH_done (by kernel_rfl) ?_ _
  go_wp2_with fail
  go_ret
  exact ⟨rfl, by assumption⟩
set_option maxHeartbeats 4000000 in
set_option maxRecDepth 100000 in
theorem meet_1 (la lp lb lq ma mp mb mq : Int) (w : World) (h0 : ((la == ma) && (lp == mp)) = false) (h1 : ((la == mb) && (lp == mq)) = true) : Calls Tryz.prog 85 #[lkA la lp lb lq, lkA ma mp mb mq] w fun e w' => e = .returned (.bool true) ∧ Below w.heap.size w w' := by
  have D0 := (Below.alN (Below.alN (Below.refl w.heap.size w) (.cells #[.int .i64 la, .int .i64 lp, .int .i64 lb, .int .i64 lq] 64)) (.cells #[.int .i64 ma, .int .i64 mp, .int .i64 mb, .int .i64 mq] 64)).drew
  have M0 := (lm_new w (.int .i64 la) (.int .i64 lp) (.int .i64 lb) (.int .i64 lq) (.int .i64 ma) (.int .i64 mp) (.int .i64 mb) (.int .i64 mq) 64).drew
  have FL : Hid (∀ w, Calls Tryz.prog 81 #[lkA la lp lb lq] w fun e w' => e = .returned (plA la lp) ∧ Below w.heap.size w w') := fun w => from_any _ _ _ _ w
  have TL : Hid (∀ w, Calls Tryz.prog 82 #[lkA la lp lb lq] w fun e w' => e = .returned (plA lb lq) ∧ Below w.heap.size w w') := fun w => to_any _ _ _ _ w
  have FM : Hid (∀ w, Calls Tryz.prog 81 #[lkA ma mp mb mq] w fun e w' => e = .returned (plA ma mp) ∧ Below w.heap.size w w') := fun w => from_any _ _ _ _ w
  have TM : Hid (∀ w, Calls Tryz.prog 82 #[lkA ma mp mb mq] w fun e w' => e = .returned (plA mb mq) ∧ Below w.heap.size w w') := fun w => to_any _ _ _ _ w
  have P0 : ∀ w, (binOp .eql 43 (plA la lp) (plA ma mp)).run Tryz.prog w = .ok (.bool false) w := fun w => by rw [place_eq, h0]
  have P1 : ∀ w, (binOp .eql 43 (plA la lp) (plA mb mq)).run Tryz.prog w = .ok (.bool true) w := fun w => by rw [place_eq, h1]
  clear h0 h1
  go_enter Tryz.func85, Tryz.ntmps85
  go_wp2_with fail
  refine wp_region_held_drew (S := (fun w' => w'.cell? ⟨w.heap.size, 0, none⟩ = some (.int .i64 la) ∧ w'.cell? ⟨w.heap.size, 1, none⟩ = some (.int .i64 lp) ∧ w'.cell? ⟨w.heap.size, 2, none⟩ = some (.int .i64 lb) ∧ w'.cell? ⟨w.heap.size, 3, none⟩ = some (.int .i64 lq) ∧ w'.cell? ⟨w.heap.size + 1, 0, none⟩ = some (.int .i64 ma) ∧ w'.cell? ⟨w.heap.size + 1, 1, none⟩ = some (.int .i64 mp) ∧ w'.cell? ⟨w.heap.size + 1, 2, none⟩ = some (.int .i64 mb) ∧ w'.cell? ⟨w.heap.size + 1, 3, none⟩ = some (.int .i64 mq))) (by kernel_rfl) (LM.cells (n := w.heap.size) (by assumption)) (fun hHeld => ?_)
  refine' tk 0 rfl (by kernel_rfl) (fun _ _ _ h => h) (by rfl) (by assumption) ?y29 ?r29
  case y29 => (intro w h; (try dsimp only at h); go_simp; (try with_reducible rfl))
  try simp only [lays]
  refine' tk 2 rfl (by kernel_rfl) (fun _ _ _ h => h) (by rfl) (by assumption) ?y30 ?r30
  case y30 => (intro w h; (try dsimp only at h); go_simp; (try with_reducible rfl))
  try simp only [lays]
  refine wpAnyH_ready (rs := [1]) (by kernel_rfl) (by simp) (AllReadyH.cons rfl (fun K hK => ?_) AllReadyH.nil)
  go_simp
  refine (FL.out _).mono ?_; rintro e wz ⟨rfl, hbz⟩; have Dz := chnN (W0 := w) hbz (by assumption); have Pz := LM.keep (n := w.heap.size) hbz (by assumption); clear hbz
  try go_wp2_with fail
  clear hHeld
  refine hK.out _ _ (LM.cells (n := w.heap.size) (by assumption)) (fun hHeld => ?_)
  clear hK K
  try simp only [lays]
  refine wpAnyH_ready (rs := [3]) (by kernel_rfl) (by simp) (AllReadyH.cons rfl (fun K hK => ?_) AllReadyH.nil)
  go_simp
  refine (FM.out _).mono ?_; rintro e wz ⟨rfl, hbz⟩; have Dz := chnN (W0 := w) hbz (by assumption); have Pz := LM.keep (n := w.heap.size) hbz (by assumption); clear hbz
  try go_wp2_with fail
  clear hHeld
  refine hK.out _ _ (LM.cells (n := w.heap.size) (by assumption)) (fun hHeld => ?_)
  clear hK K
  try simp only [lays]
  refine' tk 4 rfl (by kernel_rfl) (fun _ _ _ h => h) (by rfl) (by assumption) ?y33 ?r33
  case y33 => (intro w h; (try dsimp only at h); go_simp; (try with_reducible rfl))
  try simp only [lays]
  refine' tk 5 rfl (by kernel_rfl) (fun _ _ _ h => h) (by rfl) (by assumption) ?y34 ?r34
  case y34 => (intro w h; (try dsimp only at h); go_simp; (try with_reducible rfl))
  try simp only [lays]
  refine' tk 6 rfl (by kernel_rfl) (fun _ _ _ h => h) (by rfl) (by assumption) ?y35 ?r35
  case y35 => (intro w h; (try dsimp only at h); go_simp; (try with_reducible rfl))
  try simp only [lays]
  refine' tk 8 rfl (by kernel_rfl) (fun _ _ _ h => h) (by rfl) (by assumption) ?y36 ?r36
  case y36 => (intro w h; (try dsimp only at h); go_simp; (try with_reducible rfl))
  try simp only [lays]
  refine wpAnyH_ready (rs := [7]) (by kernel_rfl) (by simp) (AllReadyH.cons rfl (fun K hK => ?_) AllReadyH.nil)
  go_simp
  refine (FL.out _).mono ?_; rintro e wz ⟨rfl, hbz⟩; have Dz := chnN (W0 := w) hbz (by assumption); have Pz := LM.keep (n := w.heap.size) hbz (by assumption); clear hbz
  try go_wp2_with fail
  clear hHeld
  refine hK.out _ _ (LM.cells (n := w.heap.size) (by assumption)) (fun hHeld => ?_)
  clear hK K
  try simp only [lays]
  refine wpAnyH_ready (rs := [9]) (by kernel_rfl) (by simp) (AllReadyH.cons rfl (fun K hK => ?_) AllReadyH.nil)
  go_simp
  refine (TM.out _).mono ?_; rintro e wz ⟨rfl, hbz⟩; have Dz := chnN (W0 := w) hbz (by assumption); have Pz := LM.keep (n := w.heap.size) hbz (by assumption); clear hbz
  try go_wp2_with fail
  clear hHeld
  refine hK.out _ _ (LM.cells (n := w.heap.size) (by assumption)) (fun hHeld => ?_)
  clear hK K
  try simp only [lays]
  refine' tk 10 rfl (by kernel_rfl) (fun _ _ _ h => h) (by rfl) (by assumption) ?y39 ?r39
  case y39 => (intro w h; (try dsimp only at h); go_simp; (try with_reducible rfl))
  try simp only [lays]
  refine' tk 11 rfl (by kernel_rfl) (fun _ _ _ h => h) (by rfl) (by assumption) ?y40 ?r40
  case y40 => (intro w h; (try dsimp only at h); go_simp; (try with_reducible rfl))
  try simp only [lays]
  refine' tk 12 rfl (by kernel_rfl) (fun _ _ _ h => h) (by rfl) (by assumption) ?y41 ?r41
  case y41 => (intro w h; (try dsimp only at h); go_simp; (try with_reducible rfl))
  try simp only [lays]
  refine' tk0 13 rfl (by kernel_rfl) (fun _ _ _ h => h) (by rfl) (by assumption) ?_
  try simp only [lays]
  refine' tk0 14 rfl (by kernel_rfl) (fun _ _ _ h => h) (by rfl) (by assumption) ?_
  try simp only [lays]
  refine' tk0 15 rfl (by kernel_rfl) (fun _ _ _ h => h) (by rfl) (by assumption) ?_
  try simp only [lays]
  refine' tk0 16 rfl (by kernel_rfl) (fun _ _ _ h => h) (by rfl) (by assumption) ?_
  try simp only [lays]
  refine' tk0 17 rfl (by kernel_rfl) (fun _ _ _ h => h) (by rfl) (by assumption) ?_
  try simp only [lays]
  refine' tk 18 rfl (by kernel_rfl) (fun _ _ _ h => h) (by rfl) (by assumption) ?y47 ?r47
  case y47 => (intro w h; (try dsimp only at h); go_simp; (try with_reducible rfl))
  try simp only [lays]
  refine' tk 19 rfl (by kernel_rfl) (fun _ _ _ h => h) (by rfl) (by assumption) ?y48 ?r48
  case y48 => (intro w h; (try dsimp only at h); go_simp; (try with_reducible rfl))
  try simp only [lays]
  refine' tk0 20 rfl (by kernel_rfl) (fun _ _ _ h => h) (by rfl) (by assumption) ?_
  try simp only [lays]
  refine' tk0 21 rfl (by kernel_rfl) (fun _ _ _ h => h) (by rfl) (by assumption) ?_
  try simp only [lays]
  refine' tk0 22 rfl (by kernel_rfl) (fun _ _ _ h => h) (by rfl) (by assumption) ?_
  try simp only [lays]
  refine' tk0 23 rfl (by kernel_rfl) (fun _ _ _ h => h) (by rfl) (by assumption) ?_
  try simp only [lays]
  refine' tk0 24 rfl (by kernel_rfl) (fun _ _ _ h => h) (by rfl) (by assumption) ?_
  try simp only [lays]
  refine' tk 25 rfl (by kernel_rfl) (fun _ _ _ h => h) (by rfl) (by assumption) ?y54 ?r54
  case y54 => (intro w h; (try dsimp only at h); go_simp; (try with_reducible rfl))
  try simp only [lays]
  refine' tk 26 rfl (by kernel_rfl) (fun _ _ _ h => h) (by rfl) (by assumption) ?y55 ?r55
  case y55 => (intro w h; (try dsimp only at h); go_simp; (try with_reducible rfl))
  try simp only [lays]
  refine wpAnyH_done (by kernel_rfl) ?_ _
  go_wp2_with fail
  go_ret
  exact ⟨rfl, by assumption⟩
set_option maxHeartbeats 4000000 in
set_option maxRecDepth 100000 in
theorem meet_2 (la lp lb lq ma mp mb mq : Int) (w : World) (h0 : ((la == ma) && (lp == mp)) = false) (h1 : ((la == mb) && (lp == mq)) = false) (h2 : ((lb == ma) && (lq == mp)) = true) : Calls Tryz.prog 85 #[lkA la lp lb lq, lkA ma mp mb mq] w fun e w' => e = .returned (.bool true) ∧ Below w.heap.size w w' := by
  have D0 := (Below.alN (Below.alN (Below.refl w.heap.size w) (.cells #[.int .i64 la, .int .i64 lp, .int .i64 lb, .int .i64 lq] 64)) (.cells #[.int .i64 ma, .int .i64 mp, .int .i64 mb, .int .i64 mq] 64)).drew
  have M0 := (lm_new w (.int .i64 la) (.int .i64 lp) (.int .i64 lb) (.int .i64 lq) (.int .i64 ma) (.int .i64 mp) (.int .i64 mb) (.int .i64 mq) 64).drew
  have FL : Hid (∀ w, Calls Tryz.prog 81 #[lkA la lp lb lq] w fun e w' => e = .returned (plA la lp) ∧ Below w.heap.size w w') := fun w => from_any _ _ _ _ w
  have TL : Hid (∀ w, Calls Tryz.prog 82 #[lkA la lp lb lq] w fun e w' => e = .returned (plA lb lq) ∧ Below w.heap.size w w') := fun w => to_any _ _ _ _ w
  have FM : Hid (∀ w, Calls Tryz.prog 81 #[lkA ma mp mb mq] w fun e w' => e = .returned (plA ma mp) ∧ Below w.heap.size w w') := fun w => from_any _ _ _ _ w
  have TM : Hid (∀ w, Calls Tryz.prog 82 #[lkA ma mp mb mq] w fun e w' => e = .returned (plA mb mq) ∧ Below w.heap.size w w') := fun w => to_any _ _ _ _ w
  have P0 : ∀ w, (binOp .eql 43 (plA la lp) (plA ma mp)).run Tryz.prog w = .ok (.bool false) w := fun w => by rw [place_eq, h0]
  have P1 : ∀ w, (binOp .eql 43 (plA la lp) (plA mb mq)).run Tryz.prog w = .ok (.bool false) w := fun w => by rw [place_eq, h1]
  have P2 : ∀ w, (binOp .eql 43 (plA lb lq) (plA ma mp)).run Tryz.prog w = .ok (.bool true) w := fun w => by rw [place_eq, h2]
  clear h0 h1 h2
  go_enter Tryz.func85, Tryz.ntmps85
  go_wp2_with fail
  refine wp_region_held_drew (S := (fun w' => w'.cell? ⟨w.heap.size, 0, none⟩ = some (.int .i64 la) ∧ w'.cell? ⟨w.heap.size, 1, none⟩ = some (.int .i64 lp) ∧ w'.cell? ⟨w.heap.size, 2, none⟩ = some (.int .i64 lb) ∧ w'.cell? ⟨w.heap.size, 3, none⟩ = some (.int .i64 lq) ∧ w'.cell? ⟨w.heap.size + 1, 0, none⟩ = some (.int .i64 ma) ∧ w'.cell? ⟨w.heap.size + 1, 1, none⟩ = some (.int .i64 mp) ∧ w'.cell? ⟨w.heap.size + 1, 2, none⟩ = some (.int .i64 mb) ∧ w'.cell? ⟨w.heap.size + 1, 3, none⟩ = some (.int .i64 mq))) (by kernel_rfl) (LM.cells (n := w.heap.size) (by assumption)) (fun hHeld => ?_)
  refine' tk 0 rfl (by kernel_rfl) (fun _ _ _ h => h) (by rfl) (by assumption) ?y57 ?r57
  case y57 => (intro w h; (try dsimp only at h); go_simp; (try with_reducible rfl))
  try simp only [lays]
  refine' tk 2 rfl (by kernel_rfl) (fun _ _ _ h => h) (by rfl) (by assumption) ?y58 ?r58
  case y58 => (intro w h; (try dsimp only at h); go_simp; (try with_reducible rfl))
  try simp only [lays]
  refine wpAnyH_ready (rs := [1]) (by kernel_rfl) (by simp) (AllReadyH.cons rfl (fun K hK => ?_) AllReadyH.nil)
  go_simp
  refine (FL.out _).mono ?_; rintro e wz ⟨rfl, hbz⟩; have Dz := chnN (W0 := w) hbz (by assumption); have Pz := LM.keep (n := w.heap.size) hbz (by assumption); clear hbz
  try go_wp2_with fail
  clear hHeld
  refine hK.out _ _ (LM.cells (n := w.heap.size) (by assumption)) (fun hHeld => ?_)
  clear hK K
  try simp only [lays]
  refine wpAnyH_ready (rs := [3]) (by kernel_rfl) (by simp) (AllReadyH.cons rfl (fun K hK => ?_) AllReadyH.nil)
  go_simp
  refine (FM.out _).mono ?_; rintro e wz ⟨rfl, hbz⟩; have Dz := chnN (W0 := w) hbz (by assumption); have Pz := LM.keep (n := w.heap.size) hbz (by assumption); clear hbz
  try go_wp2_with fail
  clear hHeld
  refine hK.out _ _ (LM.cells (n := w.heap.size) (by assumption)) (fun hHeld => ?_)
  clear hK K
  try simp only [lays]
  refine' tk 4 rfl (by kernel_rfl) (fun _ _ _ h => h) (by rfl) (by assumption) ?y61 ?r61
  case y61 => (intro w h; (try dsimp only at h); go_simp; (try with_reducible rfl))
  try simp only [lays]
  refine' tk 5 rfl (by kernel_rfl) (fun _ _ _ h => h) (by rfl) (by assumption) ?y62 ?r62
  case y62 => (intro w h; (try dsimp only at h); go_simp; (try with_reducible rfl))
  try simp only [lays]
  refine' tk 6 rfl (by kernel_rfl) (fun _ _ _ h => h) (by rfl) (by assumption) ?y63 ?r63
  case y63 => (intro w h; (try dsimp only at h); go_simp; (try with_reducible rfl))
  try simp only [lays]
  refine' tk 8 rfl (by kernel_rfl) (fun _ _ _ h => h) (by rfl) (by assumption) ?y64 ?r64
  case y64 => (intro w h; (try dsimp only at h); go_simp; (try with_reducible rfl))
  try simp only [lays]
  refine wpAnyH_ready (rs := [7]) (by kernel_rfl) (by simp) (AllReadyH.cons rfl (fun K hK => ?_) AllReadyH.nil)
  go_simp
  refine (FL.out _).mono ?_; rintro e wz ⟨rfl, hbz⟩; have Dz := chnN (W0 := w) hbz (by assumption); have Pz := LM.keep (n := w.heap.size) hbz (by assumption); clear hbz
  try go_wp2_with fail
  clear hHeld
  refine hK.out _ _ (LM.cells (n := w.heap.size) (by assumption)) (fun hHeld => ?_)
  clear hK K
  try simp only [lays]
  refine wpAnyH_ready (rs := [9]) (by kernel_rfl) (by simp) (AllReadyH.cons rfl (fun K hK => ?_) AllReadyH.nil)
  go_simp
  refine (TM.out _).mono ?_; rintro e wz ⟨rfl, hbz⟩; have Dz := chnN (W0 := w) hbz (by assumption); have Pz := LM.keep (n := w.heap.size) hbz (by assumption); clear hbz
  try go_wp2_with fail
  clear hHeld
  refine hK.out _ _ (LM.cells (n := w.heap.size) (by assumption)) (fun hHeld => ?_)
  clear hK K
  try simp only [lays]
  refine' tk 10 rfl (by kernel_rfl) (fun _ _ _ h => h) (by rfl) (by assumption) ?y67 ?r67
  case y67 => (intro w h; (try dsimp only at h); go_simp; (try with_reducible rfl))
  try simp only [lays]
  refine' tk 11 rfl (by kernel_rfl) (fun _ _ _ h => h) (by rfl) (by assumption) ?y68 ?r68
  case y68 => (intro w h; (try dsimp only at h); go_simp; (try with_reducible rfl))
  try simp only [lays]
  refine' tk 12 rfl (by kernel_rfl) (fun _ _ _ h => h) (by rfl) (by assumption) ?y69 ?r69
  case y69 => (intro w h; (try dsimp only at h); go_simp; (try with_reducible rfl))
  try simp only [lays]
  refine' tk 13 rfl (by kernel_rfl) (fun _ _ _ h => h) (by rfl) (by assumption) ?y70 ?r70
  case y70 => (intro w h; (try dsimp only at h); go_simp; (try with_reducible rfl))
  try simp only [lays]
  refine' tk 15 rfl (by kernel_rfl) (fun _ _ _ h => h) (by rfl) (by assumption) ?y71 ?r71
  case y71 => (intro w h; (try dsimp only at h); go_simp; (try with_reducible rfl))
  try simp only [lays]
  refine wpAnyH_ready (rs := [14]) (by kernel_rfl) (by simp) (AllReadyH.cons rfl (fun K hK => ?_) AllReadyH.nil)
  go_simp
  refine (TL.out _).mono ?_; rintro e wz ⟨rfl, hbz⟩; have Dz := chnN (W0 := w) hbz (by assumption); have Pz := LM.keep (n := w.heap.size) hbz (by assumption); clear hbz
  try go_wp2_with fail
  clear hHeld
  refine hK.out _ _ (LM.cells (n := w.heap.size) (by assumption)) (fun hHeld => ?_)
  clear hK K
  try simp only [lays]
  refine wpAnyH_ready (rs := [16]) (by kernel_rfl) (by simp) (AllReadyH.cons rfl (fun K hK => ?_) AllReadyH.nil)
  go_simp
  refine (FM.out _).mono ?_; rintro e wz ⟨rfl, hbz⟩; have Dz := chnN (W0 := w) hbz (by assumption); have Pz := LM.keep (n := w.heap.size) hbz (by assumption); clear hbz
  try go_wp2_with fail
  clear hHeld
  refine hK.out _ _ (LM.cells (n := w.heap.size) (by assumption)) (fun hHeld => ?_)
  clear hK K
  try simp only [lays]
  refine' tk 17 rfl (by kernel_rfl) (fun _ _ _ h => h) (by rfl) (by assumption) ?y74 ?r74
  case y74 => (intro w h; (try dsimp only at h); go_simp; (try with_reducible rfl))
  try simp only [lays]
  refine' tk 18 rfl (by kernel_rfl) (fun _ _ _ h => h) (by rfl) (by assumption) ?y75 ?r75
  case y75 => (intro w h; (try dsimp only at h); go_simp; (try with_reducible rfl))
  try simp only [lays]
  refine' tk 19 rfl (by kernel_rfl) (fun _ _ _ h => h) (by rfl) (by assumption) ?y76 ?r76
  case y76 => (intro w h; (try dsimp only at h); go_simp; (try with_reducible rfl))
  try simp only [lays]
  refine' tk0 20 rfl (by kernel_rfl) (fun _ _ _ h => h) (by rfl) (by assumption) ?_
  try simp only [lays]
  refine' tk0 21 rfl (by kernel_rfl) (fun _ _ _ h => h) (by rfl) (by assumption) ?_
  try simp only [lays]
  refine' tk0 22 rfl (by kernel_rfl) (fun _ _ _ h => h) (by rfl) (by assumption) ?_
  try simp only [lays]
  refine' tk0 23 rfl (by kernel_rfl) (fun _ _ _ h => h) (by rfl) (by assumption) ?_
  try simp only [lays]
  refine' tk0 24 rfl (by kernel_rfl) (fun _ _ _ h => h) (by rfl) (by assumption) ?_
  try simp only [lays]
  refine' tk 25 rfl (by kernel_rfl) (fun _ _ _ h => h) (by rfl) (by assumption) ?y82 ?r82
  case y82 => (intro w h; (try dsimp only at h); go_simp; (try with_reducible rfl))
  try simp only [lays]
  refine' tk 26 rfl (by kernel_rfl) (fun _ _ _ h => h) (by rfl) (by assumption) ?y83 ?r83
  case y83 => (intro w h; (try dsimp only at h); go_simp; (try with_reducible rfl))
  try simp only [lays]
  refine wpAnyH_done (by kernel_rfl) ?_ _
  go_wp2_with fail
  go_ret
  exact ⟨rfl, by assumption⟩
set_option maxHeartbeats 4000000 in
set_option maxRecDepth 100000 in
theorem meet_3 (la lp lb lq ma mp mb mq : Int) (x3 : Bool) (w : World) (h0 : ((la == ma) && (lp == mp)) = false) (h1 : ((la == mb) && (lp == mq)) = false) (h2 : ((lb == ma) && (lq == mp)) = false) (h3 : ((lb == mb) && (lq == mq)) = x3) : Calls Tryz.prog 85 #[lkA la lp lb lq, lkA ma mp mb mq] w fun e w' => e = .returned (.bool x3) ∧ Below w.heap.size w w' := by
  have D0 := (Below.alN (Below.alN (Below.refl w.heap.size w) (.cells #[.int .i64 la, .int .i64 lp, .int .i64 lb, .int .i64 lq] 64)) (.cells #[.int .i64 ma, .int .i64 mp, .int .i64 mb, .int .i64 mq] 64)).drew
  have M0 := (lm_new w (.int .i64 la) (.int .i64 lp) (.int .i64 lb) (.int .i64 lq) (.int .i64 ma) (.int .i64 mp) (.int .i64 mb) (.int .i64 mq) 64).drew
  have FL : Hid (∀ w, Calls Tryz.prog 81 #[lkA la lp lb lq] w fun e w' => e = .returned (plA la lp) ∧ Below w.heap.size w w') := fun w => from_any _ _ _ _ w
  have TL : Hid (∀ w, Calls Tryz.prog 82 #[lkA la lp lb lq] w fun e w' => e = .returned (plA lb lq) ∧ Below w.heap.size w w') := fun w => to_any _ _ _ _ w
  have FM : Hid (∀ w, Calls Tryz.prog 81 #[lkA ma mp mb mq] w fun e w' => e = .returned (plA ma mp) ∧ Below w.heap.size w w') := fun w => from_any _ _ _ _ w
  have TM : Hid (∀ w, Calls Tryz.prog 82 #[lkA ma mp mb mq] w fun e w' => e = .returned (plA mb mq) ∧ Below w.heap.size w w') := fun w => to_any _ _ _ _ w
  have P0 : ∀ w, (binOp .eql 43 (plA la lp) (plA ma mp)).run Tryz.prog w = .ok (.bool false) w := fun w => by rw [place_eq, h0]
  have P1 : ∀ w, (binOp .eql 43 (plA la lp) (plA mb mq)).run Tryz.prog w = .ok (.bool false) w := fun w => by rw [place_eq, h1]
  have P2 : ∀ w, (binOp .eql 43 (plA lb lq) (plA ma mp)).run Tryz.prog w = .ok (.bool false) w := fun w => by rw [place_eq, h2]
  have P3 : ∀ w, (binOp .eql 43 (plA lb lq) (plA mb mq)).run Tryz.prog w = .ok (.bool x3) w := fun w => by rw [place_eq, h3]
  clear h0 h1 h2 h3
  go_enter Tryz.func85, Tryz.ntmps85
  go_wp2_with fail
  refine wp_region_held_drew (S := (fun w' => w'.cell? ⟨w.heap.size, 0, none⟩ = some (.int .i64 la) ∧ w'.cell? ⟨w.heap.size, 1, none⟩ = some (.int .i64 lp) ∧ w'.cell? ⟨w.heap.size, 2, none⟩ = some (.int .i64 lb) ∧ w'.cell? ⟨w.heap.size, 3, none⟩ = some (.int .i64 lq) ∧ w'.cell? ⟨w.heap.size + 1, 0, none⟩ = some (.int .i64 ma) ∧ w'.cell? ⟨w.heap.size + 1, 1, none⟩ = some (.int .i64 mp) ∧ w'.cell? ⟨w.heap.size + 1, 2, none⟩ = some (.int .i64 mb) ∧ w'.cell? ⟨w.heap.size + 1, 3, none⟩ = some (.int .i64 mq))) (by kernel_rfl) (LM.cells (n := w.heap.size) (by assumption)) (fun hHeld => ?_)
  refine' tk 0 rfl (by kernel_rfl) (fun _ _ _ h => h) (by rfl) (by assumption) ?y85 ?r85
  case y85 => (intro w h; (try dsimp only at h); go_simp; (try with_reducible rfl))
  try simp only [lays]
  refine' tk 2 rfl (by kernel_rfl) (fun _ _ _ h => h) (by rfl) (by assumption) ?y86 ?r86
  case y86 => (intro w h; (try dsimp only at h); go_simp; (try with_reducible rfl))
  try simp only [lays]
  refine wpAnyH_ready (rs := [1]) (by kernel_rfl) (by simp) (AllReadyH.cons rfl (fun K hK => ?_) AllReadyH.nil)
  go_simp
  refine (FL.out _).mono ?_; rintro e wz ⟨rfl, hbz⟩; have Dz := chnN (W0 := w) hbz (by assumption); have Pz := LM.keep (n := w.heap.size) hbz (by assumption); clear hbz
  try go_wp2_with fail
  clear hHeld
  refine hK.out _ _ (LM.cells (n := w.heap.size) (by assumption)) (fun hHeld => ?_)
  clear hK K
  try simp only [lays]
  refine wpAnyH_ready (rs := [3]) (by kernel_rfl) (by simp) (AllReadyH.cons rfl (fun K hK => ?_) AllReadyH.nil)
  go_simp
  refine (FM.out _).mono ?_; rintro e wz ⟨rfl, hbz⟩; have Dz := chnN (W0 := w) hbz (by assumption); have Pz := LM.keep (n := w.heap.size) hbz (by assumption); clear hbz
  try go_wp2_with fail
  clear hHeld
  refine hK.out _ _ (LM.cells (n := w.heap.size) (by assumption)) (fun hHeld => ?_)
  clear hK K
  try simp only [lays]
  refine' tk 4 rfl (by kernel_rfl) (fun _ _ _ h => h) (by rfl) (by assumption) ?y89 ?r89
  case y89 => (intro w h; (try dsimp only at h); go_simp; (try with_reducible rfl))
  try simp only [lays]
  refine' tk 5 rfl (by kernel_rfl) (fun _ _ _ h => h) (by rfl) (by assumption) ?y90 ?r90
  case y90 => (intro w h; (try dsimp only at h); go_simp; (try with_reducible rfl))
  try simp only [lays]
  refine' tk 6 rfl (by kernel_rfl) (fun _ _ _ h => h) (by rfl) (by assumption) ?y91 ?r91
  case y91 => (intro w h; (try dsimp only at h); go_simp; (try with_reducible rfl))
  try simp only [lays]
  refine' tk 8 rfl (by kernel_rfl) (fun _ _ _ h => h) (by rfl) (by assumption) ?y92 ?r92
  case y92 => (intro w h; (try dsimp only at h); go_simp; (try with_reducible rfl))
  try simp only [lays]
  refine wpAnyH_ready (rs := [7]) (by kernel_rfl) (by simp) (AllReadyH.cons rfl (fun K hK => ?_) AllReadyH.nil)
  go_simp
  refine (FL.out _).mono ?_; rintro e wz ⟨rfl, hbz⟩; have Dz := chnN (W0 := w) hbz (by assumption); have Pz := LM.keep (n := w.heap.size) hbz (by assumption); clear hbz
  try go_wp2_with fail
  clear hHeld
  refine hK.out _ _ (LM.cells (n := w.heap.size) (by assumption)) (fun hHeld => ?_)
  clear hK K
  try simp only [lays]
  refine wpAnyH_ready (rs := [9]) (by kernel_rfl) (by simp) (AllReadyH.cons rfl (fun K hK => ?_) AllReadyH.nil)
  go_simp
  refine (TM.out _).mono ?_; rintro e wz ⟨rfl, hbz⟩; have Dz := chnN (W0 := w) hbz (by assumption); have Pz := LM.keep (n := w.heap.size) hbz (by assumption); clear hbz
  try go_wp2_with fail
  clear hHeld
  refine hK.out _ _ (LM.cells (n := w.heap.size) (by assumption)) (fun hHeld => ?_)
  clear hK K
  try simp only [lays]
  refine' tk 10 rfl (by kernel_rfl) (fun _ _ _ h => h) (by rfl) (by assumption) ?y95 ?r95
  case y95 => (intro w h; (try dsimp only at h); go_simp; (try with_reducible rfl))
  try simp only [lays]
  refine' tk 11 rfl (by kernel_rfl) (fun _ _ _ h => h) (by rfl) (by assumption) ?y96 ?r96
  case y96 => (intro w h; (try dsimp only at h); go_simp; (try with_reducible rfl))
  try simp only [lays]
  refine' tk 12 rfl (by kernel_rfl) (fun _ _ _ h => h) (by rfl) (by assumption) ?y97 ?r97
  case y97 => (intro w h; (try dsimp only at h); go_simp; (try with_reducible rfl))
  try simp only [lays]
  refine' tk 13 rfl (by kernel_rfl) (fun _ _ _ h => h) (by rfl) (by assumption) ?y98 ?r98
  case y98 => (intro w h; (try dsimp only at h); go_simp; (try with_reducible rfl))
  try simp only [lays]
  refine' tk 15 rfl (by kernel_rfl) (fun _ _ _ h => h) (by rfl) (by assumption) ?y99 ?r99
  case y99 => (intro w h; (try dsimp only at h); go_simp; (try with_reducible rfl))
  try simp only [lays]
  refine wpAnyH_ready (rs := [14]) (by kernel_rfl) (by simp) (AllReadyH.cons rfl (fun K hK => ?_) AllReadyH.nil)
  go_simp
  refine (TL.out _).mono ?_; rintro e wz ⟨rfl, hbz⟩; have Dz := chnN (W0 := w) hbz (by assumption); have Pz := LM.keep (n := w.heap.size) hbz (by assumption); clear hbz
  try go_wp2_with fail
  clear hHeld
  refine hK.out _ _ (LM.cells (n := w.heap.size) (by assumption)) (fun hHeld => ?_)
  clear hK K
  try simp only [lays]
  refine wpAnyH_ready (rs := [16]) (by kernel_rfl) (by simp) (AllReadyH.cons rfl (fun K hK => ?_) AllReadyH.nil)
  go_simp
  refine (FM.out _).mono ?_; rintro e wz ⟨rfl, hbz⟩; have Dz := chnN (W0 := w) hbz (by assumption); have Pz := LM.keep (n := w.heap.size) hbz (by assumption); clear hbz
  try go_wp2_with fail
  clear hHeld
  refine hK.out _ _ (LM.cells (n := w.heap.size) (by assumption)) (fun hHeld => ?_)
  clear hK K
  try simp only [lays]
  refine' tk 17 rfl (by kernel_rfl) (fun _ _ _ h => h) (by rfl) (by assumption) ?y102 ?r102
  case y102 => (intro w h; (try dsimp only at h); go_simp; (try with_reducible rfl))
  try simp only [lays]
  refine' tk 18 rfl (by kernel_rfl) (fun _ _ _ h => h) (by rfl) (by assumption) ?y103 ?r103
  case y103 => (intro w h; (try dsimp only at h); go_simp; (try with_reducible rfl))
  try simp only [lays]
  refine' tk 19 rfl (by kernel_rfl) (fun _ _ _ h => h) (by rfl) (by assumption) ?y104 ?r104
  case y104 => (intro w h; (try dsimp only at h); go_simp; (try with_reducible rfl))
  try simp only [lays]
  refine' tk 20 rfl (by kernel_rfl) (fun _ _ _ h => h) (by rfl) (by assumption) ?y105 ?r105
  case y105 => (intro w h; (try dsimp only at h); go_simp; (try with_reducible rfl))
  try simp only [lays]
  refine' tk 22 rfl (by kernel_rfl) (fun _ _ _ h => h) (by rfl) (by assumption) ?y106 ?r106
  case y106 => (intro w h; (try dsimp only at h); go_simp; (try with_reducible rfl))
  try simp only [lays]
  refine wpAnyH_ready (rs := [21]) (by kernel_rfl) (by simp) (AllReadyH.cons rfl (fun K hK => ?_) AllReadyH.nil)
  go_simp
  refine (TL.out _).mono ?_; rintro e wz ⟨rfl, hbz⟩; have Dz := chnN (W0 := w) hbz (by assumption); have Pz := LM.keep (n := w.heap.size) hbz (by assumption); clear hbz
  try go_wp2_with fail
  clear hHeld
  refine hK.out _ _ (LM.cells (n := w.heap.size) (by assumption)) (fun hHeld => ?_)
  clear hK K
  try simp only [lays]
  refine wpAnyH_ready (rs := [23]) (by kernel_rfl) (by simp) (AllReadyH.cons rfl (fun K hK => ?_) AllReadyH.nil)
  go_simp
  refine (TM.out _).mono ?_; rintro e wz ⟨rfl, hbz⟩; have Dz := chnN (W0 := w) hbz (by assumption); have Pz := LM.keep (n := w.heap.size) hbz (by assumption); clear hbz
  try go_wp2_with fail
  clear hHeld
  refine hK.out _ _ (LM.cells (n := w.heap.size) (by assumption)) (fun hHeld => ?_)
  clear hK K
  try simp only [lays]
  refine' tk 24 rfl (by kernel_rfl) (fun _ _ _ h => h) (by rfl) (by assumption) ?y109 ?r109
  case y109 => (intro w h; (try dsimp only at h); go_simp; (try with_reducible rfl))
  try simp only [lays]
  refine' tk 25 rfl (by kernel_rfl) (fun _ _ _ h => h) (by rfl) (by assumption) ?y110 ?r110
  case y110 => (intro w h; (try dsimp only at h); go_simp; (try with_reducible rfl))
  try simp only [lays]
  refine' tk 26 rfl (by kernel_rfl) (fun _ _ _ h => h) (by rfl) (by assumption) ?y111 ?r111
  case y111 => (intro w h; (try dsimp only at h); go_simp; (try with_reducible rfl))
  try simp only [lays]
  refine wpAnyH_done (by kernel_rfl) ?_ _
  go_wp2_with fail
  go_ret
  exact ⟨rfl, by assumption⟩
theorem meet_any (l m : Lk) (w : World) : Calls Tryz.prog 85 #[lkA l.a l.p l.b l.q, lkA m.a m.p m.b m.q] w fun e w' => e = .returned (.bool (meetB l m)) ∧ Below w.heap.size w w' := by
  unfold meetB
  cases h0 : ((l.a == m.a) && (l.p == m.p))
  · cases h1 : ((l.a == m.b) && (l.p == m.q))
    · cases h2 : ((l.b == m.a) && (l.q == m.p))
      · exact meet_3 _ _ _ _ _ _ _ _ _ w h0 h1 h2 rfl
      · exact meet_2 _ _ _ _ _ _ _ _ w h0 h1 h2
    · exact meet_1 _ _ _ _ _ _ _ _ w h0 h1
  · exact meet_0 _ _ _ _ _ _ _ _ w h0
set_option maxHeartbeats 1000000 in
theorem link1_any (o l : Lk) (n0 : Nat) (w : World) (hT : Lk4 w n0 (.int .i64 l.a) (.int .i64 l.p) (.int .i64 l.b) (.int .i64 l.q)) :
    Calls Tryz.prog 84 #[lkA o.a o.p o.b o.q, .pointer (some ⟨n0, 0, none⟩)] w fun e w' => e = .returned (.bool (meetB o l)) ∧ Below w.heap.size w w' := by
  have D0 := Below.alN (Below.refl w.heap.size w) (.cells #[.int .i64 o.a, .int .i64 o.p, .int .i64 o.b, .int .i64 o.q] 64)
  have T1 := hT.alloc (.cells #[.int .i64 o.a, .int .i64 o.p, .int .i64 o.b, .int .i64 o.q] 64)
  obtain ⟨l0, g0, g1, g2, g3⟩ := T1
  have SM : Hid (∀ w, Calls Tryz.prog 85 #[lkA o.a o.p o.b o.q, lkA l.a l.p l.b l.q] w fun e w' => e = .returned (.bool (meetB o l)) ∧ Below w.heap.size w w') := fun w => meet_any o l w
  clear hT
  generalize meetB o l = x at *
  generalize o.a = oa at *
  generalize o.p = op at *
  generalize o.b = ob at *
  generalize o.q = oq at *
  generalize l.a = la at *
  generalize l.p = lp at *
  generalize l.b = lb at *
  generalize l.q = lq at *
  go_enter Tryz.func84, Tryz.ntmps84
  go_wp2_with fail
  refine (SM.out _).mono ?_
  rintro e w1 ⟨rfl, hb1⟩
  have D1 := chnN hb1 D0
  clear D0 hb1 g0 g1 g2 g3 SM
  go_wp2_with fail
  go_ret
  exact ⟨rfl, D1⟩
theorem any_takeL {ls : List Lk} {k : Nat} {m l : Lk} (h : ls[k]? = some m) : (ls.take (k + 1)).any (fun m => meetB m l) = ((ls.take k).any (fun m => meetB m l) || meetB m l) := by
  obtain ⟨hk, e⟩ := List.getElem?_eq_some_iff.1 h
  rw [List.take_succ_eq_append_getElem hk, e]
  simp
set_option maxHeartbeats 4000000 in
set_option maxRecDepth 100000 in
theorem linkIdx_any (A : Option Addr) (n cap : Nat) (ls : List Lk) (l : Lk) (n0 : Nat) (w : World) (hL : Hid (Links w.heap.size w (.slice A n cap) ls)) (hT : Hid (Lk4 w n0 (.int .i64 l.a) (.int .i64 l.p) (.int .i64 l.b) (.int .i64 l.q))) :
    Calls Tryz.prog 112 #[.slice A n cap, .func (.func 84) #[] #[.pointer (some ⟨n0, 0, none⟩)]] w fun e w' => ∃ j : Int, e = .returned (.int .i64 j) ∧ Hid (decide (0 ≤ j) = ls.any (fun m => meetB m l)) ∧ Below w.heap.size w w' := by
  obtain ⟨rfl, hc, hm⟩ := hL.out.len
  unfold maxLen at hm
  go_enter Tryz.func112, Tryz.ntmps112
  go_wp2_with fail
  go_loopw [8] (fun i wr => ∃ k : Nat, i = .int .i64 (k : Int) ∧ k ≤ ls.length ∧ Below w.heap.size w wr ∧ Hid ((ls.take k).any (fun m => meetB m l) = false)) (fun i _ => ls.length - (intOf i).toNat)
  case atStart => exact ⟨0, rfl, by omega, Below.refl _ _, rfl⟩
  case round =>
    obtain ⟨k, rfl, hk, D1, hno⟩ := hrel
    by_cases hlt : k < ls.length
    · obtain ⟨m, hxk⟩ : ∃ m, ls[k]? = some m := ⟨_, List.getElem?_eq_getElem hlt⟩
      obtain ⟨b, o, rfl, hb, c0, c1, c2, c3⟩ := (hL.out.below D1).at hxk
      have PR : Hid (Calls Tryz.prog 84 #[lkA m.a m.p m.b m.q, .pointer (some ⟨n0, 0, none⟩)] wr fun e w' => e = .returned (.bool (meetB m l)) ∧ Below wr.heap.size wr w') := link1_any m l n0 wr (hT.out.below D1 hT.out.1)
      have HX : Hid (ls[k]? = some m) := hxk
      have k1 : (0 : Int) ≤ (k : Int) := by omega
      have k2 : (k : Int) < (ls.length : Int) := by omega
      clear hL hxk hT
      cases hv : meetB m l
      · rw [hv] at PR
        have HV : Hid ((ls.take (k + 1)).any (fun m => meetB m l) = false) := by show _ = _; rw [any_takeL HX.out, hno.out, hv]; rfl
        clear hv hno HX
        generalize m.a = ma at *
        generalize m.p = mp at *
        generalize m.b = mb at *
        generalize m.q = mq at *
        go_wp2_with fail
        refine PR.out.mono ?_
        rintro e w2 ⟨rfl, hb2⟩
        have D2 := chnN hb2 D1
        clear hb2 D1 c0 c1 c2 c3 PR
        go_wp2_with fail
        go_roundw
        case rel => exact ⟨k + 1, by go_num, by omega, D2, HV⟩
        case measure => simp [intOf]; omega
      · rw [hv] at PR
        have fin : Hid (ls.any (fun m => meetB m l) = true) := List.any_eq_true.2 ⟨m, List.mem_of_getElem? HX.out, hv⟩
        clear hv hno HX
        generalize m.a = ma at *
        generalize m.p = mp at *
        generalize m.b = mb at *
        generalize m.q = mq at *
        go_wp2_with fail
        refine PR.out.mono ?_
        rintro e w2 ⟨rfl, hb2⟩
        have D2 := chnN hb2 D1
        clear hb2 D1 c0 c1 c2 c3 PR
        go_wp2_with fail
        go_ret
        exact ⟨_, rfl, (by show _ = _; rw [fin.out]; simp), D2⟩
    · have fin : Hid (ls.any (fun m => meetB m l) = false) := by
        have := hno.out
        rw [show k = ls.length by omega, List.take_length] at this
        exact this
      go_wp2_with fail
      go_ret
      exact ⟨_, rfl, (by show _ = _; rw [fin.out]; simp), D1⟩
set_option maxHeartbeats 1000000 in
theorem linkHas_any (A : Option Addr) (n cap : Nat) (ls : List Lk) (l : Lk) (n0 : Nat) (w : World) (hL : Hid (Links w.heap.size w (.slice A n cap) ls)) (hT : Hid (Lk4 w n0 (.int .i64 l.a) (.int .i64 l.p) (.int .i64 l.b) (.int .i64 l.q))) :
    Calls Tryz.prog 83 #[.slice A n cap, .func (.func 84) #[] #[.pointer (some ⟨n0, 0, none⟩)]] w fun e w' => e = .returned (.bool (ls.any (fun m => meetB m l))) ∧ Below w.heap.size w w' := by
  have IX : Hid (Calls Tryz.prog 112 #[.slice A n cap, .func (.func 84) #[] #[.pointer (some ⟨n0, 0, none⟩)]] w fun e w' => ∃ j : Int, e = .returned (.int .i64 j) ∧ Hid (decide (0 ≤ j) = ls.any (fun m => meetB m l)) ∧ Below w.heap.size w w') := linkIdx_any A n cap ls l n0 w hL hT
  clear hL hT
  generalize ls.any (fun m => meetB m l) = x at *
  go_enter Tryz.func83, Tryz.ntmps83
  go_wp2_with fail
  refine IX.out.mono ?_
  rintro e w2 ⟨j, rfl, hj, hb2⟩
  clear IX
  go_wp2_with fail
  go_ret
  exact ⟨by rw [hj.out]; rfl, hb2⟩
theorem Lk4.cells {w : World} {n : Nat} {a b c d : Value} (h : Lk4 w n a b c d) : w.cell? ⟨n, 0, none⟩ = some a ∧ w.cell? ⟨n, 1, none⟩ = some b ∧ w.cell? ⟨n, 2, none⟩ = some c ∧ w.cell? ⟨n, 3, none⟩ = some d := h.2
theorem Lk4.keep {W w' : World} {n : Nat} {a b c d : Value} (hb : Below W.heap.size W w') (h : Lk4 W n a b c d) : Lk4 w' n a b c d := h.below hb h.1
end Go.Proofs.YtlmmeppifkigeaaGreat
