/-
  The document's answer on nets: the text of a net.
-/
import Derived.Test.YtkckgoeemfjkkaaDoorRT1
import Derived.Test.YtkckgoeemfjkkaaDoorPW5
import Derived.Test.YtkckgoeemfjkkaaDoorR6
import Derived.Test.YtkckgoeemfjkkaaDoorRPeer
namespace Go.Proofs.YtkckgoeemfjkkaaDoor
open Go.RowKit

theorem sum_lz (a b : ByteArray) (m n : Nat) (ha : a.size ≤ m) (hb : b.size ≤ n) (h : m + n ≤ 1000000) : ∃ s : ByteArray, (∀ w : World, (Op.stringOp .add a b).run Tryd.prog w = .ok (.string s) w) ∧ Hid (s.data.toList = a.data.toList ++ b.data.toList) ∧ s.size ≤ m + n := by
  obtain ⟨s, h1, h2⟩ := sum_ex a b (by omega)
  refine ⟨s, h1, ?_, ?_⟩
  · show _ = _
    rw [h2.out, app_toList]
  · rw [h2.out, ByteArray.size_append]
    omega
theorem szl {s : ByteArray} {l : List UInt8} (h : s.data.toList = l) {n : Nat} (hn : l.length ≤ n) : s.size ≤ n := by
  rw [Lib.size_eq, h]
  exact hn
theorem line2 (a b : List UInt8) : lineT [a, b] = a ++ ([32] ++ (b ++ [10])) := by simp [lineT, Lib.join]
theorem line3 (a b c : List UInt8) : lineT [a, b, c] = a ++ ([32] ++ (b ++ ([32] ++ (c ++ [10])))) := by simp [lineT, Lib.join]
theorem line4 (a b c d : List UInt8) : lineT [a, b, c, d] = a ++ ([32] ++ (b ++ ([32] ++ (c ++ ([32] ++ (d ++ [10])))))) := by simp [lineT, Lib.join]
theorem line5 (a b c d e : List UInt8) : lineT [a, b, c, d, e] = a ++ ([32] ++ (b ++ ([32] ++ (c ++ ([32] ++ (d ++ ([32] ++ (e ++ [10])))))))) := by simp [lineT, Lib.join]
/-- What the rounds of NetText keep. -/
def TS (w W : World) (v1 v2 : Value) : Prop := Below w.heap.size w W ∧ Box2 W w.heap.size v1 v2
theorem TS.keep {w W W' : World} {v1 v2 : Value} (h : TS w W v1 v2) (hb : Below W.heap.size W W') : TS w W' v1 v2 := ⟨chnN hb h.1, h.2.below hb h.2.1⟩
theorem TS.alloc {w W : World} {v1 v2 : Value} (h : TS w W v1 v2) (o : Obj) : TS w (W.alloc o) v1 v2 := h.keep ((Below.refl _ _).alloc (Nat.le_refl _) o)
theorem TS.drew {w W : World} {v1 v2 : Value} (h : TS w W v1 v2) : TS w W.drew v1 v2 := h.keep (Below.refl _ _).drew
theorem flat_pre {α : Type} (f : α → List UInt8) (m : Nat) (xs : List α) (h : ∀ x ∈ xs, (f x).length ≤ m) (k : Nat) (hk : k ≤ xs.length) : ((xs.take k).flatMap f).length ≤ m * k := by
  have := flat_len f m (xs.take k) (fun x hx => h x (List.mem_of_mem_take hx))
  rw [List.length_take, Nat.min_eq_left hk] at this
  exact this
set_option maxHeartbeats 32000000 in
set_option maxRecDepth 100000 in
theorem rtext_row (A B : Option Addr) (cap cap' : Nat) (ds : List Dv) (ls : List Lk) (w : World) (hD : Hid (Devs w.heap.size w (.slice A ds.length cap) ds)) (hL : Hid (Links w.heap.size w (.slice B ls.length cap') ls)) (h10 : ds.length ≤ 10) (h15 : ls.length ≤ 15) (hR : Hid (∀ d ∈ ds, RightD d)) (hP : Hid (∀ l ∈ ls, isPl ds l.a l.p = true ∧ isPl ds l.b l.q = true)) :
    Calls Tryd.prog 5 #[.agg #[.slice A ds.length cap, .slice B ls.length cap']] w fun e w' => ∃ s : ByteArray, e = .returned (.string s) ∧ Hid (s.data.toList = netT ds ls) ∧ Below w.heap.size w w' := by
  obtain ⟨_, hc, hm⟩ := hD.out.len
  obtain ⟨_, hc', hm'⟩ := hL.out.len
  unfold maxLen at hm hm'
  have HPRE : Hid (∀ k, k ≤ ds.length → ((ds.take k).flatMap devT).length ≤ 5101 * k) := fun k hk => flat_pre devT 5101 ds (fun d hd => devT_len (hR.out d hd)) k hk
  have T0 : TS w (w.alloc (.cells #[.slice A ds.length cap, .slice B ls.length cap'] 25)) (.slice A ds.length cap) (.slice B ls.length cap') := ⟨Below.alN (Below.refl _ _) _, box2_new w _ _ _⟩
  go_enter Tryd.func5, Tryd.ntmps5
  go_wp2_with fail
  go_loopw [4, 5] (fun o i wr => ∃ (k : Nat) (s : ByteArray), o = .string s ∧ i = .int .i64 (k : Int) ∧ k ≤ ds.length ∧ TS w wr (.slice A ds.length cap) (.slice B ls.length cap') ∧ Hid (s.data.toList = (ds.take k).flatMap devT)) (fun _ i _ => ds.length - (intOf i).toNat)
  case atStart => exact ⟨0, ⟨#[]⟩, rfl, rfl, by omega, T0, rfl⟩
  case round =>
    clear T0
    obtain ⟨k, s, rfl, rfl, hk, T1, HS⟩ := hrel
    obtain ⟨_, b0, b1, _⟩ := id T1.2
    by_cases hlt : k < ds.length
    · obtain ⟨d, hxk⟩ : ∃ d, ds[k]? = some d := ⟨_, List.getElem?_eq_getElem hlt⟩
      obtain ⟨g, o, vb, vr, vt, rfl, hg, z1, z2, z3, c0, c1, c2, c3, c4, c5, c6⟩ := (hD.out.below T1.1).at hxk
      have RD := hR.out d (List.mem_of_getElem? hxk)
      have y1 : ∀ W, Below w.heap.size w W → SlAt W.heap.size W 1 IsI vb d.backs ∧ SlAt w.heap.size W 5 IsRule vr d.rules ∧ SlAt w.heap.size W 3 IsRoute vt d.routes := fun W h => by
        obtain ⟨b', o', vb', vr', vt', e1, _, s1, s2, s3, t0, t1, t2, t3, t4, t5, t6⟩ := (hD.out.below h).at hxk
        cases e1
        have g4 := (T1.1.cell (p := ⟨g, o + k * 7 + 4, none⟩) hg).symm.trans c4
        have g5 := (T1.1.cell (p := ⟨g, o + k * 7 + 5, none⟩) hg).symm.trans c5
        have g6 := (T1.1.cell (p := ⟨g, o + k * 7 + 6, none⟩) hg).symm.trans c6
        have f4 := (h.cell (p := ⟨g, o + k * 7 + 4, none⟩) hg).symm.trans t4
        have f5 := (h.cell (p := ⟨g, o + k * 7 + 5, none⟩) hg).symm.trans t5
        have f6 := (h.cell (p := ⟨g, o + k * 7 + 6, none⟩) hg).symm.trans t6
        obtain rfl := Option.some.inj (g4.symm.trans f4)
        obtain rfl := Option.some.inj (g5.symm.trans f5)
        obtain rfl := Option.some.inj (g6.symm.trans f6)
        exact ⟨SlAt.mono s1 h.size (fun _ _ _ h => h), s2, s3⟩
      obtain ⟨Ab, cb, rfl, _, _, _, _⟩ := z1
      obtain ⟨Ar, cr, rfl, _, r1, r2, _⟩ := z2
      obtain ⟨At, ct, rfl, _, t1, t2, _⟩ := z3
      unfold maxLen at r2 t2
      have Y : Hid (∀ W, Below w.heap.size w W → SlAt W.heap.size W 1 IsI (.slice Ab d.backs.length cb) d.backs ∧ SlAt w.heap.size W 5 IsRule (.slice Ar d.rules.length cr) d.rules ∧ SlAt w.heap.size W 3 IsRoute (.slice At d.routes.length ct) d.routes) := y1
      have HT : Hid ((ds.take (k + 1)).flatMap devT = (ds.take k).flatMap devT ++ devT d) := flat_take devT hxk
      have HDT : Hid (devT d = lineT (devWs d) ++ (d.rules.flatMap ruleT ++ d.routes.flatMap routeT)) := rfl
      have hwl := devWs_len RD
      have hr8 := RD.rules
      have ht8 := RD.routes
      have hsz : s.size ≤ 51010 := szl HS.out (by have := HPRE.out k hk; omega)
      have hnm8 := RD.name
      have HADR : Hid (hasAddr d.kind = true → 0 ≤ d.addr ∧ d.addr ≤ 15) := RD.addr
      have HBK : Hid (∀ b ∈ d.backs, 0 ≤ b ∧ b ≤ 15) := RD.back
      have hb3 := RD.backs
      have HRT : Hid (∀ r ∈ d.routes, isR (rtOf r) = true) := RD.route
      have hkk : d.kind = 1 ∨ d.kind = 2 ∨ d.kind = 3 ∨ d.kind = 4 ∨ d.kind = 5 := by have := RD.kind; omega
      have hp256 := d.hp
      have k1 : (0 : Int) ≤ (k : Int) := by omega
      have k2 : (k : Int) < (ds.length : Int) := by omega
      have HWS : Hid (devWs d = [kwB d.kind, d.name.data.toList] ++ (if hasAddr d.kind then [dcB d.addr] else []) ++ (if d.kind = 4 then [numsT (poolL d.pool)] else if d.kind = 5 then [numsT d.backs] else [])) := rfl
      have NBK : Hid (∀ W, Below w.heap.size w W → Calls Tryd.prog 17 #[.slice Ab d.backs.length cb] W fun e w' => ∃ s : ByteArray, e = .returned (.string s) ∧ Hid (s.data.toList = numsT d.backs) ∧ s.size ≤ 24 ∧ w' = W) := fun W h => commas_any _ d.backs W (Y.out W h).1 (by omega) (fun x hx => by have := HBK.out x hx; omega)
      clear hxk y1 RD
      obtain ⟨nm, hnm⟩ : ∃ nm, nm = d.name := ⟨_, rfl⟩
      obtain ⟨kd, hkd⟩ : ∃ kd, kd = d.kind := ⟨_, rfl⟩
      obtain ⟨ad, had⟩ : ∃ ad, ad = d.addr := ⟨_, rfl⟩
      obtain ⟨pl, hpl⟩ : ∃ pl, pl = d.pool := ⟨_, rfl⟩
      obtain ⟨nb, hnb⟩ : ∃ nb, nb = d.backs.length := ⟨_, rfl⟩
      rw [← hnm] at c0 hnm8
      rw [← hkd] at c1 hkk
      rw [← had] at c2
      rw [← hpl] at c3 hp256
      rw [← hnb] at c4 NBK
      rw [← hnm, ← hkd, ← had, ← hpl] at HWS
      rw [← hkd, ← had] at HADR
      clear hnm hkd had hpl hnb HBK
      obtain ⟨dws, hdws⟩ : ∃ dws, dws = devWs d := ⟨_, rfl⟩
      rw [← hdws] at HWS HDT hwl
      clear hdws
      rcases hkk with rfl | rfl | rfl | rfl | rfl
      · have X2 := blk_new wr #[.string nm, .int .i64 1, .int .i64 ad, .int .u8 (pl : Int), .slice Ab nb cb, .slice Ar d.rules.length cr, .slice At d.routes.length ct] 41
        have T2 := T1.alloc (.cells #[.string nm, .int .i64 1, .int .i64 ad, .int .u8 (pl : Int), .slice Ab nb cb, .slice Ar d.rules.length cr, .slice At d.routes.length ct] 41)
        have q0 := X2.cell 0 _ rfl
        have q1 := X2.cell 1 _ rfl
        obtain ⟨a1, f1, h1, l1⟩ := sum_lz ⟨#[104, 111, 115, 116]⟩ ⟨#[32]⟩ 6 1 (by decide) (by decide) (by omega)
        obtain ⟨a2, f2, h2, l2⟩ := sum_lz a1 nm 7 8 l1 hnm8 (by omega)
        obtain ⟨a3, f3, h3, l3⟩ := sum_lz s a2 51010 15 hsz l2 (by omega)
        have had := HADR.out rfl
        obtain ⟨x1, hx1, lx1, I1⟩ := itoa_ex ad had.1 (by omega)
        obtain ⟨b2, f4, h4, l4⟩ := sum_lz ⟨#[32]⟩ x1 1 2 (by decide) lx1 (by omega)
        obtain ⟨b3, f5, h5, l5⟩ := sum_lz a3 b2 51025 3 l3 l4 (by omega)
        have X3 := (X2.alloc (.cells #[.string ⟨#[]⟩, .string ⟨#[104, 111, 115, 116]⟩, .string ⟨#[114, 111, 117, 116, 101, 114]⟩, .string ⟨#[102, 105, 114, 101]⟩, .string ⟨#[110, 97, 116]⟩, .string ⟨#[108, 98]⟩] 9)).drew
        have T3 := (T2.alloc (.cells #[.string ⟨#[]⟩, .string ⟨#[104, 111, 115, 116]⟩, .string ⟨#[114, 111, 117, 116, 101, 114]⟩, .string ⟨#[102, 105, 114, 101]⟩, .string ⟨#[110, 97, 116]⟩, .string ⟨#[108, 98]⟩] 9)).drew
        have Z3 := (blk_new (wr.alloc (.cells #[.string nm, .int .i64 1, .int .i64 ad, .int .u8 (pl : Int), .slice Ab nb cb, .slice Ar d.rules.length cr, .slice At d.routes.length ct] 41)) #[.string ⟨#[]⟩, .string ⟨#[104, 111, 115, 116]⟩, .string ⟨#[114, 111, 117, 116, 101, 114]⟩, .string ⟨#[102, 105, 114, 101]⟩, .string ⟨#[110, 97, 116]⟩, .string ⟨#[108, 98]⟩] 9).drew
        rw [World.size_alloc] at Z3
        have z3 := Z3.cell 1 _ rfl
        have y0 := X3.cell 0 _ rfl
        have y1 := X3.cell 1 _ rfl
        have y2 := X3.cell 2 _ rfl
        have y3 := X3.cell 3 _ rfl
        have y4 := X3.cell 4 _ rfl
        have y5 := X3.cell 5 _ rfl
        have y6 := X3.cell 6 _ rfl
        clear HADR NBK
        go_wp2_with fail
        go_region
        clear c0 c1 c2 c3 c4 c5 c6 q0 q1 Z3 z3 b0 b1 T1 T2 X2
        generalize wr.heap.size = xd at *
        obtain ⟨s4, fN, hN, lN⟩ := sum_lz b3 ⟨#[10]⟩ 51028 1 l5 (by decide) (by omega)
        have HL1 : Hid (s4.data.toList = (ds.take k).flatMap devT ++ lineT dws) := by
          show _ = _
          rw [hN.out, h5.out, h4.out, hx1.out, h3.out, h2.out, h1.out, HS.out, HWS.out]
          show _ = _ ++ lineT [kwB 1, nm.data.toList, dcB ad]
          rw [line3]
          simp [kwB]
        go_wp2_with (go_at_call 15; refine (I1.out _).mono ?_; rintro e w' ⟨rfl, rfl⟩)
        clear HS h1 h2 h3 hN
        have l4s : s4.size ≤ 51200 := by omega
        go_loopw [4, 9] (fun ot i wr' => ∃ (j : Nat) (sr : ByteArray), ot = .string sr ∧ i = .int .i64 (j : Int) ∧ j ≤ d.rules.length ∧ TS w wr' (.slice (some ⟨g, o, none⟩) ds.length cap) (.slice B ls.length cap') ∧ Blk wr' xd #[.string nm, .int .i64 1, .int .i64 ad, .int .u8 (pl : Int), .slice Ab nb cb, .slice Ar d.rules.length cr, .slice At d.routes.length ct] 41 ∧ Hid (sr.data.toList = s4.data.toList ++ (d.rules.take j).flatMap ruleT)) (fun _ i _ => d.rules.length - (intOf i).toNat)
        case atStart => exact ⟨0, s4, rfl, rfl, by omega, T3, X3, by show _ = _; simp⟩
        case round =>
          obtain ⟨j, sr, rfl, rfl, hj, T5, X5, HJ⟩ := hrel
          have e5 := X5.cell 5 _ rfl
          by_cases hjr : j < d.rules.length
          · obtain ⟨r, hr⟩ : ∃ r, d.rules[j]? = some r := ⟨_, List.getElem?_eq_getElem hjr⟩
            obtain ⟨gr, or, rfl, hgr, c0, c1, c2, c3, c4⟩ := Rules.atN (Y.out _ T5.1).2.1 hr
            have MT : Hid (∀ w, Calls Tryd.prog 18 #[.agg #[.int .u16 (r.a : Int), .int .u16 (r.b : Int), .int .u8 (r.c : Int), .int .u8 (r.d : Int)]] w fun e w' => e = .returned (.string ⟨(Mt.matT r.a r.b r.c r.d).toArray⟩) ∧ Below w.heap.size w w') := fun w => mtext_any r.a r.b r.c r.d w r.ha r.hb r.hc r.hd
            have HFR : Hid ((d.rules.take (j + 1)).flatMap ruleT = (d.rules.take j).flatMap ruleT ++ ruleT r) := flat_take ruleT hr
            have HRL : Hid (ruleT r = ruleW r.ok ++ ([32] ++ (Mt.matT r.a r.b r.c r.d ++ [10]))) := line2 _ _
            have hml := Mt.matT_len r.a r.b r.c r.d
            obtain ⟨rb, hrb⟩ : ∃ rb : ByteArray, rb = ⟨(Mt.matT r.a r.b r.c r.d).toArray⟩ := ⟨_, rfl⟩
            have hrl : rb.data.toList = Mt.matT r.a r.b r.c r.d := by rw [hrb]
            have lrb : rb.size ≤ 300 := szl hrl hml
            rw [← hrb] at MT
            have HRB : Hid (rb.data.toList = Mt.matT r.a r.b r.c r.d) := hrl
            clear hrb hrl hr hml
            have lsr : sr.size ≤ 57000 := szl HJ.out (by
              have h1 := flat_pre ruleT 603 d.rules (fun r _ => ruleT_len r) j hj
              have h2 : 603 * j ≤ 603 * 8 := Nat.mul_le_mul_left _ (by omega)
              rw [List.length_append, ← Lib.size_eq]
              omega)
            have j1 : (0 : Int) ≤ (j : Int) := by omega
            have j2 : (j : Int) < (d.rules.length : Int) := by omega
            generalize Mt.matT r.a r.b r.c r.d = mt0 at *
            generalize r.a = qa at *
            generalize r.b = qb at *
            generalize r.c = qc at *
            generalize r.d = qd at *
            cases hok : r.ok
            · obtain ⟨s5, g5, k5, m5⟩ := sum_lz ⟨#[100, 101, 110, 121, 32]⟩ rb 5 300 (by decide) lrb (by omega)
              obtain ⟨s6, g6, k6, m6⟩ := sum_lz s5 ⟨#[10]⟩ 305 1 m5 (by decide) (by omega)
              obtain ⟨s7, g7, k7, m7⟩ := sum_lz sr s6 57000 306 lsr m6 (by omega)
              have HV : Hid (s7.data.toList = s4.data.toList ++ (d.rules.take (j + 1)).flatMap ruleT) := by
                show _ = _
                rw [k7.out, k6.out, k5.out, HRB.out, HJ.out, HFR.out, HRL.out, hok]
                simp [ruleW]
              rw [hok] at c0
              clear k5 k6 k7 HRL HFR HJ HRB hok
              go_wp2_with fail
              refine (MT.out _).mono ?_
              rintro e w7 ⟨rfl, hb7⟩
              have T8 := T5.keep hb7
              have X8 := X5.keep hb7
              clear hb7 T5 X5 e5 c0 c1 c2 c3 c4
              go_wp2_with fail
              go_roundw
              case rel => exact ⟨j + 1, s7, rfl, by go_num, by omega, T8, X8, HV⟩
              case measure => simp [intOf]; omega
            · obtain ⟨s5, g5, k5, m5⟩ := sum_lz ⟨#[112, 101, 114, 109, 105, 116, 32]⟩ rb 7 300 (by decide) lrb (by omega)
              obtain ⟨s6, g6, k6, m6⟩ := sum_lz s5 ⟨#[10]⟩ 307 1 m5 (by decide) (by omega)
              obtain ⟨s7, g7, k7, m7⟩ := sum_lz sr s6 57000 308 lsr m6 (by omega)
              have HV : Hid (s7.data.toList = s4.data.toList ++ (d.rules.take (j + 1)).flatMap ruleT) := by
                show _ = _
                rw [k7.out, k6.out, k5.out, HRB.out, HJ.out, HFR.out, HRL.out, hok]
                simp [ruleW]
              rw [hok] at c0
              clear k5 k6 k7 HRL HFR HJ HRB hok
              go_wp2_with fail
              refine (MT.out _).mono ?_
              rintro e w7 ⟨rfl, hb7⟩
              have T8 := T5.keep hb7
              have X8 := X5.keep hb7
              clear hb7 T5 X5 e5 c0 c1 c2 c3 c4
              go_wp2_with fail
              go_roundw
              case rel => exact ⟨j + 1, s7, rfl, by go_num, by omega, T8, X8, HV⟩
              case measure => simp [intOf]; omega
          · have HJ2 : Hid (sr.data.toList = s4.data.toList ++ d.rules.flatMap ruleT) := by
              show _ = _
              rw [HJ.out, show j = d.rules.length by omega, List.take_length]
            have lsr : sr.size ≤ 57000 := szl HJ.out (by
              have h1 := flat_pre ruleT 603 d.rules (fun r _ => ruleT_len r) j hj
              have h2 : 603 * j ≤ 603 * 8 := Nat.mul_le_mul_left _ (by omega)
              rw [List.length_append, ← Lib.size_eq]
              omega)
            clear HJ
            have e6 := X5.cell 6 _ rfl
            go_wp2_with fail
            clear e6 e5
            go_loopw [4, 11] (fun ot i wr' => ∃ (m : Nat) (st : ByteArray), ot = .string st ∧ i = .int .i64 (m : Int) ∧ m ≤ d.routes.length ∧ TS w wr' (.slice (some ⟨g, o, none⟩) ds.length cap) (.slice B ls.length cap') ∧ Blk wr' xd #[.string nm, .int .i64 1, .int .i64 ad, .int .u8 (pl : Int), .slice Ab nb cb, .slice Ar d.rules.length cr, .slice At d.routes.length ct] 41 ∧ Hid (st.data.toList = sr.data.toList ++ (d.routes.take m).flatMap routeT)) (fun _ i _ => d.routes.length - (intOf i).toNat)
            case atStart => exact ⟨0, sr, rfl, rfl, by omega, T5, X5, by show _ = _; simp⟩
            case round =>
              clear T5 X5
              obtain ⟨m, st, rfl, rfl, hm3, T5, X5, HJ⟩ := hrel
              have e6 := X5.cell 6 _ rfl
              by_cases hmr : m < d.routes.length
              · obtain ⟨r, hr⟩ : ∃ r, d.routes[m]? = some r := ⟨_, List.getElem?_eq_getElem hmr⟩
                obtain ⟨gr, or, rfl, hgr, c0, c1, c2⟩ := Routes.atN (Y.out _ T5.1).2.2 hr
                have hir := HRT.out r (List.mem_of_getElem? hr)
                obtain ⟨⟨v0, v1⟩, ⟨p0, p1⟩, u0, u1⟩ := isR_nums hir
                obtain ⟨i1, hi1, li1, J1⟩ := itoa_ex r.v v0 (by omega)
                obtain ⟨i2, hi2, li2, J2⟩ := itoa_ex r.b p0 (by omega)
                obtain ⟨i3, hi3, li3, J3⟩ := itoa_ex r.p u0 (by omega)
                have lst : st.size ≤ 58000 := szl HJ.out (by
                  have h1 := flat_pre routeT 22 d.routes (fun r hr => routeT_len (HRT.out r hr)) m hm3
                  have h2 : 22 * m ≤ 22 * 8 := Nat.mul_le_mul_left _ (by omega)
                  rw [List.length_append, ← Lib.size_eq]
                  omega)
                obtain ⟨t1', g1, n1, q1⟩ := sum_lz ⟨#[114, 111, 117, 116, 101, 32]⟩ i1 6 2 (by decide) li1 (by omega)
                obtain ⟨t2', g2, n2, q2⟩ := sum_lz t1' ⟨#[47]⟩ 8 1 q1 (by decide) (by omega)
                obtain ⟨t3', g3, n3, q3⟩ := sum_lz t2' i2 9 2 q2 li2 (by omega)
                obtain ⟨t4', g4, n4, q4⟩ := sum_lz t3' ⟨#[32]⟩ 11 1 q3 (by decide) (by omega)
                obtain ⟨t5', g5, n5, q5⟩ := sum_lz t4' i3 12 2 q4 li3 (by omega)
                obtain ⟨t6', g6, n6, q6⟩ := sum_lz t5' ⟨#[10]⟩ 14 1 q5 (by decide) (by omega)
                obtain ⟨t7', g7, n7, q7⟩ := sum_lz st t6' 58000 15 lst q6 (by omega)
                have HFR : Hid ((d.routes.take (m + 1)).flatMap routeT = (d.routes.take m).flatMap routeT ++ routeT r) := flat_take routeT hr
                have HV : Hid (t7'.data.toList = sr.data.toList ++ (d.routes.take (m + 1)).flatMap routeT) := by
                  show _ = _
                  rw [n7.out, n6.out, n5.out, n4.out, n3.out, n2.out, n1.out, hi1.out, hi2.out, hi3.out, HJ.out, HFR.out]
                  unfold routeT
                  rw [line3]
                  simp [routeW]
                clear hr hir hi1 hi2 hi3 v0 v1 p0 p1 u0 u1 n1 n2 n3 n4 n5 n6 n7 HJ HFR
                have j1 : (0 : Int) ≤ (m : Int) := by omega
                have j2 : (m : Int) < (d.routes.length : Int) := by omega
                obtain ⟨rv, hrv⟩ : ∃ rv, rv = r.v := ⟨_, rfl⟩
                obtain ⟨rb, hrb⟩ : ∃ rb, rb = r.b := ⟨_, rfl⟩
                obtain ⟨rp, hrp⟩ : ∃ rp, rp = r.p := ⟨_, rfl⟩
                rw [← hrv] at J1 c0
                rw [← hrb] at J2 c1
                rw [← hrp] at J3 c2
                clear hrv hrb hrp
                have R6 := blk_new wr #[.int .i64 rv, .int .i64 rb, .int .i64 rp] 60
                have T6 := T5.alloc (.cells #[.int .i64 rv, .int .i64 rb, .int .i64 rp] 60)
                have X6 := X5.alloc (.cells #[.int .i64 rv, .int .i64 rb, .int .i64 rp] 60)
                have m0 := R6.cell 0 _ rfl
                have m1 := R6.cell 1 _ rfl
                have m2 := R6.cell 2 _ rfl
                clear T5 X5
                go_wp2_with fail
                go_quiet ((first | (go_at_call_of 15 (Value.int .i64 rv); exact Calls.quiet_of_same (J1.out _)) | (go_at_call_of 15 (Value.int .i64 rb); exact Calls.quiet_of_same (J2.out _)) | (go_at_call_of 15 (Value.int .i64 rp); exact Calls.quiet_of_same (J3.out _))))
                go_wp2_with fail
                go_roundw
                case rel => exact ⟨m + 1, t7', rfl, by go_num, by omega, T6.keep (belowNN (Below.refl _ _) _), X6.keep (belowNN (Below.refl _ _) _), HV⟩
                case measure => simp [intOf]; omega
              · have HV : Hid (st.data.toList = (ds.take (k + 1)).flatMap devT) := by
                  show _ = _
                  rw [HJ.out, show m = d.routes.length by omega, List.take_length, HJ2.out, HL1.out, HT.out, HDT.out]
                  simp only [List.append_assoc]
                go_wp2_with fail
                go_roundw
                case rel => first | exact ⟨k + 1, st, rfl, by go_num, by omega, T5, HV⟩ | ((repeat apply Exists.intro); exact ⟨⟨k + 1, st, rfl, by go_num, by omega, T5, HV⟩, rfl⟩)
                case measure => simp [intOf]; omega
      · have X2 := blk_new wr #[.string nm, .int .i64 2, .int .i64 ad, .int .u8 (pl : Int), .slice Ab nb cb, .slice Ar d.rules.length cr, .slice At d.routes.length ct] 41
        have T2 := T1.alloc (.cells #[.string nm, .int .i64 2, .int .i64 ad, .int .u8 (pl : Int), .slice Ab nb cb, .slice Ar d.rules.length cr, .slice At d.routes.length ct] 41)
        have q0 := X2.cell 0 _ rfl
        have q1 := X2.cell 1 _ rfl
        obtain ⟨a1, f1, h1, l1⟩ := sum_lz ⟨#[114, 111, 117, 116, 101, 114]⟩ ⟨#[32]⟩ 6 1 (by decide) (by decide) (by omega)
        obtain ⟨a2, f2, h2, l2⟩ := sum_lz a1 nm 7 8 l1 hnm8 (by omega)
        obtain ⟨a3, f3, h3, l3⟩ := sum_lz s a2 51010 15 hsz l2 (by omega)
        have X3 := (X2.alloc (.cells #[.string ⟨#[]⟩, .string ⟨#[104, 111, 115, 116]⟩, .string ⟨#[114, 111, 117, 116, 101, 114]⟩, .string ⟨#[102, 105, 114, 101]⟩, .string ⟨#[110, 97, 116]⟩, .string ⟨#[108, 98]⟩] 9)).drew
        have T3 := (T2.alloc (.cells #[.string ⟨#[]⟩, .string ⟨#[104, 111, 115, 116]⟩, .string ⟨#[114, 111, 117, 116, 101, 114]⟩, .string ⟨#[102, 105, 114, 101]⟩, .string ⟨#[110, 97, 116]⟩, .string ⟨#[108, 98]⟩] 9)).drew
        have Z3 := (blk_new (wr.alloc (.cells #[.string nm, .int .i64 2, .int .i64 ad, .int .u8 (pl : Int), .slice Ab nb cb, .slice Ar d.rules.length cr, .slice At d.routes.length ct] 41)) #[.string ⟨#[]⟩, .string ⟨#[104, 111, 115, 116]⟩, .string ⟨#[114, 111, 117, 116, 101, 114]⟩, .string ⟨#[102, 105, 114, 101]⟩, .string ⟨#[110, 97, 116]⟩, .string ⟨#[108, 98]⟩] 9).drew
        rw [World.size_alloc] at Z3
        have z3 := Z3.cell 2 _ rfl
        have y0 := X3.cell 0 _ rfl
        have y1 := X3.cell 1 _ rfl
        have y2 := X3.cell 2 _ rfl
        have y3 := X3.cell 3 _ rfl
        have y4 := X3.cell 4 _ rfl
        have y5 := X3.cell 5 _ rfl
        have y6 := X3.cell 6 _ rfl
        clear HADR NBK
        go_wp2_with fail
        go_region
        clear c0 c1 c2 c3 c4 c5 c6 q0 q1 Z3 z3 b0 b1 T1 T2 X2
        generalize wr.heap.size = xd at *
        obtain ⟨s4, fN, hN, lN⟩ := sum_lz a3 ⟨#[10]⟩ 51025 1 l3 (by decide) (by omega)
        have HL1 : Hid (s4.data.toList = (ds.take k).flatMap devT ++ lineT dws) := by
          show _ = _
          rw [hN.out, h3.out, h2.out, h1.out, HS.out, HWS.out]
          show _ = _ ++ lineT [kwB 2, nm.data.toList]
          rw [line2]
          simp [kwB]
        go_wp2_with fail
        clear HS h1 h2 h3 hN
        have l4s : s4.size ≤ 51200 := by omega
        go_loopw [4, 9] (fun ot i wr' => ∃ (j : Nat) (sr : ByteArray), ot = .string sr ∧ i = .int .i64 (j : Int) ∧ j ≤ d.rules.length ∧ TS w wr' (.slice (some ⟨g, o, none⟩) ds.length cap) (.slice B ls.length cap') ∧ Blk wr' xd #[.string nm, .int .i64 2, .int .i64 ad, .int .u8 (pl : Int), .slice Ab nb cb, .slice Ar d.rules.length cr, .slice At d.routes.length ct] 41 ∧ Hid (sr.data.toList = s4.data.toList ++ (d.rules.take j).flatMap ruleT)) (fun _ i _ => d.rules.length - (intOf i).toNat)
        case atStart => exact ⟨0, s4, rfl, rfl, by omega, T3, X3, by show _ = _; simp⟩
        case round =>
          obtain ⟨j, sr, rfl, rfl, hj, T5, X5, HJ⟩ := hrel
          have e5 := X5.cell 5 _ rfl
          by_cases hjr : j < d.rules.length
          · obtain ⟨r, hr⟩ : ∃ r, d.rules[j]? = some r := ⟨_, List.getElem?_eq_getElem hjr⟩
            obtain ⟨gr, or, rfl, hgr, c0, c1, c2, c3, c4⟩ := Rules.atN (Y.out _ T5.1).2.1 hr
            have MT : Hid (∀ w, Calls Tryd.prog 18 #[.agg #[.int .u16 (r.a : Int), .int .u16 (r.b : Int), .int .u8 (r.c : Int), .int .u8 (r.d : Int)]] w fun e w' => e = .returned (.string ⟨(Mt.matT r.a r.b r.c r.d).toArray⟩) ∧ Below w.heap.size w w') := fun w => mtext_any r.a r.b r.c r.d w r.ha r.hb r.hc r.hd
            have HFR : Hid ((d.rules.take (j + 1)).flatMap ruleT = (d.rules.take j).flatMap ruleT ++ ruleT r) := flat_take ruleT hr
            have HRL : Hid (ruleT r = ruleW r.ok ++ ([32] ++ (Mt.matT r.a r.b r.c r.d ++ [10]))) := line2 _ _
            have hml := Mt.matT_len r.a r.b r.c r.d
            obtain ⟨rb, hrb⟩ : ∃ rb : ByteArray, rb = ⟨(Mt.matT r.a r.b r.c r.d).toArray⟩ := ⟨_, rfl⟩
            have hrl : rb.data.toList = Mt.matT r.a r.b r.c r.d := by rw [hrb]
            have lrb : rb.size ≤ 300 := szl hrl hml
            rw [← hrb] at MT
            have HRB : Hid (rb.data.toList = Mt.matT r.a r.b r.c r.d) := hrl
            clear hrb hrl hr hml
            have lsr : sr.size ≤ 57000 := szl HJ.out (by
              have h1 := flat_pre ruleT 603 d.rules (fun r _ => ruleT_len r) j hj
              have h2 : 603 * j ≤ 603 * 8 := Nat.mul_le_mul_left _ (by omega)
              rw [List.length_append, ← Lib.size_eq]
              omega)
            have j1 : (0 : Int) ≤ (j : Int) := by omega
            have j2 : (j : Int) < (d.rules.length : Int) := by omega
            generalize Mt.matT r.a r.b r.c r.d = mt0 at *
            generalize r.a = qa at *
            generalize r.b = qb at *
            generalize r.c = qc at *
            generalize r.d = qd at *
            cases hok : r.ok
            · obtain ⟨s5, g5, k5, m5⟩ := sum_lz ⟨#[100, 101, 110, 121, 32]⟩ rb 5 300 (by decide) lrb (by omega)
              obtain ⟨s6, g6, k6, m6⟩ := sum_lz s5 ⟨#[10]⟩ 305 1 m5 (by decide) (by omega)
              obtain ⟨s7, g7, k7, m7⟩ := sum_lz sr s6 57000 306 lsr m6 (by omega)
              have HV : Hid (s7.data.toList = s4.data.toList ++ (d.rules.take (j + 1)).flatMap ruleT) := by
                show _ = _
                rw [k7.out, k6.out, k5.out, HRB.out, HJ.out, HFR.out, HRL.out, hok]
                simp [ruleW]
              rw [hok] at c0
              clear k5 k6 k7 HRL HFR HJ HRB hok
              go_wp2_with fail
              refine (MT.out _).mono ?_
              rintro e w7 ⟨rfl, hb7⟩
              have T8 := T5.keep hb7
              have X8 := X5.keep hb7
              clear hb7 T5 X5 e5 c0 c1 c2 c3 c4
              go_wp2_with fail
              go_roundw
              case rel => exact ⟨j + 1, s7, rfl, by go_num, by omega, T8, X8, HV⟩
              case measure => simp [intOf]; omega
            · obtain ⟨s5, g5, k5, m5⟩ := sum_lz ⟨#[112, 101, 114, 109, 105, 116, 32]⟩ rb 7 300 (by decide) lrb (by omega)
              obtain ⟨s6, g6, k6, m6⟩ := sum_lz s5 ⟨#[10]⟩ 307 1 m5 (by decide) (by omega)
              obtain ⟨s7, g7, k7, m7⟩ := sum_lz sr s6 57000 308 lsr m6 (by omega)
              have HV : Hid (s7.data.toList = s4.data.toList ++ (d.rules.take (j + 1)).flatMap ruleT) := by
                show _ = _
                rw [k7.out, k6.out, k5.out, HRB.out, HJ.out, HFR.out, HRL.out, hok]
                simp [ruleW]
              rw [hok] at c0
              clear k5 k6 k7 HRL HFR HJ HRB hok
              go_wp2_with fail
              refine (MT.out _).mono ?_
              rintro e w7 ⟨rfl, hb7⟩
              have T8 := T5.keep hb7
              have X8 := X5.keep hb7
              clear hb7 T5 X5 e5 c0 c1 c2 c3 c4
              go_wp2_with fail
              go_roundw
              case rel => exact ⟨j + 1, s7, rfl, by go_num, by omega, T8, X8, HV⟩
              case measure => simp [intOf]; omega
          · have HJ2 : Hid (sr.data.toList = s4.data.toList ++ d.rules.flatMap ruleT) := by
              show _ = _
              rw [HJ.out, show j = d.rules.length by omega, List.take_length]
            have lsr : sr.size ≤ 57000 := szl HJ.out (by
              have h1 := flat_pre ruleT 603 d.rules (fun r _ => ruleT_len r) j hj
              have h2 : 603 * j ≤ 603 * 8 := Nat.mul_le_mul_left _ (by omega)
              rw [List.length_append, ← Lib.size_eq]
              omega)
            clear HJ
            have e6 := X5.cell 6 _ rfl
            go_wp2_with fail
            clear e6 e5
            go_loopw [4, 11] (fun ot i wr' => ∃ (m : Nat) (st : ByteArray), ot = .string st ∧ i = .int .i64 (m : Int) ∧ m ≤ d.routes.length ∧ TS w wr' (.slice (some ⟨g, o, none⟩) ds.length cap) (.slice B ls.length cap') ∧ Blk wr' xd #[.string nm, .int .i64 2, .int .i64 ad, .int .u8 (pl : Int), .slice Ab nb cb, .slice Ar d.rules.length cr, .slice At d.routes.length ct] 41 ∧ Hid (st.data.toList = sr.data.toList ++ (d.routes.take m).flatMap routeT)) (fun _ i _ => d.routes.length - (intOf i).toNat)
            case atStart => exact ⟨0, sr, rfl, rfl, by omega, T5, X5, by show _ = _; simp⟩
            case round =>
              clear T5 X5
              obtain ⟨m, st, rfl, rfl, hm3, T5, X5, HJ⟩ := hrel
              have e6 := X5.cell 6 _ rfl
              by_cases hmr : m < d.routes.length
              · obtain ⟨r, hr⟩ : ∃ r, d.routes[m]? = some r := ⟨_, List.getElem?_eq_getElem hmr⟩
                obtain ⟨gr, or, rfl, hgr, c0, c1, c2⟩ := Routes.atN (Y.out _ T5.1).2.2 hr
                have hir := HRT.out r (List.mem_of_getElem? hr)
                obtain ⟨⟨v0, v1⟩, ⟨p0, p1⟩, u0, u1⟩ := isR_nums hir
                obtain ⟨i1, hi1, li1, J1⟩ := itoa_ex r.v v0 (by omega)
                obtain ⟨i2, hi2, li2, J2⟩ := itoa_ex r.b p0 (by omega)
                obtain ⟨i3, hi3, li3, J3⟩ := itoa_ex r.p u0 (by omega)
                have lst : st.size ≤ 58000 := szl HJ.out (by
                  have h1 := flat_pre routeT 22 d.routes (fun r hr => routeT_len (HRT.out r hr)) m hm3
                  have h2 : 22 * m ≤ 22 * 8 := Nat.mul_le_mul_left _ (by omega)
                  rw [List.length_append, ← Lib.size_eq]
                  omega)
                obtain ⟨t1', g1, n1, q1⟩ := sum_lz ⟨#[114, 111, 117, 116, 101, 32]⟩ i1 6 2 (by decide) li1 (by omega)
                obtain ⟨t2', g2, n2, q2⟩ := sum_lz t1' ⟨#[47]⟩ 8 1 q1 (by decide) (by omega)
                obtain ⟨t3', g3, n3, q3⟩ := sum_lz t2' i2 9 2 q2 li2 (by omega)
                obtain ⟨t4', g4, n4, q4⟩ := sum_lz t3' ⟨#[32]⟩ 11 1 q3 (by decide) (by omega)
                obtain ⟨t5', g5, n5, q5⟩ := sum_lz t4' i3 12 2 q4 li3 (by omega)
                obtain ⟨t6', g6, n6, q6⟩ := sum_lz t5' ⟨#[10]⟩ 14 1 q5 (by decide) (by omega)
                obtain ⟨t7', g7, n7, q7⟩ := sum_lz st t6' 58000 15 lst q6 (by omega)
                have HFR : Hid ((d.routes.take (m + 1)).flatMap routeT = (d.routes.take m).flatMap routeT ++ routeT r) := flat_take routeT hr
                have HV : Hid (t7'.data.toList = sr.data.toList ++ (d.routes.take (m + 1)).flatMap routeT) := by
                  show _ = _
                  rw [n7.out, n6.out, n5.out, n4.out, n3.out, n2.out, n1.out, hi1.out, hi2.out, hi3.out, HJ.out, HFR.out]
                  unfold routeT
                  rw [line3]
                  simp [routeW]
                clear hr hir hi1 hi2 hi3 v0 v1 p0 p1 u0 u1 n1 n2 n3 n4 n5 n6 n7 HJ HFR
                have j1 : (0 : Int) ≤ (m : Int) := by omega
                have j2 : (m : Int) < (d.routes.length : Int) := by omega
                obtain ⟨rv, hrv⟩ : ∃ rv, rv = r.v := ⟨_, rfl⟩
                obtain ⟨rb, hrb⟩ : ∃ rb, rb = r.b := ⟨_, rfl⟩
                obtain ⟨rp, hrp⟩ : ∃ rp, rp = r.p := ⟨_, rfl⟩
                rw [← hrv] at J1 c0
                rw [← hrb] at J2 c1
                rw [← hrp] at J3 c2
                clear hrv hrb hrp
                have R6 := blk_new wr #[.int .i64 rv, .int .i64 rb, .int .i64 rp] 60
                have T6 := T5.alloc (.cells #[.int .i64 rv, .int .i64 rb, .int .i64 rp] 60)
                have X6 := X5.alloc (.cells #[.int .i64 rv, .int .i64 rb, .int .i64 rp] 60)
                have m0 := R6.cell 0 _ rfl
                have m1 := R6.cell 1 _ rfl
                have m2 := R6.cell 2 _ rfl
                clear T5 X5
                go_wp2_with fail
                go_quiet ((first | (go_at_call_of 15 (Value.int .i64 rv); exact Calls.quiet_of_same (J1.out _)) | (go_at_call_of 15 (Value.int .i64 rb); exact Calls.quiet_of_same (J2.out _)) | (go_at_call_of 15 (Value.int .i64 rp); exact Calls.quiet_of_same (J3.out _))))
                go_wp2_with fail
                go_roundw
                case rel => exact ⟨m + 1, t7', rfl, by go_num, by omega, T6.keep (belowNN (Below.refl _ _) _), X6.keep (belowNN (Below.refl _ _) _), HV⟩
                case measure => simp [intOf]; omega
              · have HV : Hid (st.data.toList = (ds.take (k + 1)).flatMap devT) := by
                  show _ = _
                  rw [HJ.out, show m = d.routes.length by omega, List.take_length, HJ2.out, HL1.out, HT.out, HDT.out]
                  simp only [List.append_assoc]
                go_wp2_with fail
                go_roundw
                case rel => first | exact ⟨k + 1, st, rfl, by go_num, by omega, T5, HV⟩ | ((repeat apply Exists.intro); exact ⟨⟨k + 1, st, rfl, by go_num, by omega, T5, HV⟩, rfl⟩)
                case measure => simp [intOf]; omega
      · have X2 := blk_new wr #[.string nm, .int .i64 3, .int .i64 ad, .int .u8 (pl : Int), .slice Ab nb cb, .slice Ar d.rules.length cr, .slice At d.routes.length ct] 41
        have T2 := T1.alloc (.cells #[.string nm, .int .i64 3, .int .i64 ad, .int .u8 (pl : Int), .slice Ab nb cb, .slice Ar d.rules.length cr, .slice At d.routes.length ct] 41)
        have q0 := X2.cell 0 _ rfl
        have q1 := X2.cell 1 _ rfl
        obtain ⟨a1, f1, h1, l1⟩ := sum_lz ⟨#[102, 105, 114, 101]⟩ ⟨#[32]⟩ 6 1 (by decide) (by decide) (by omega)
        obtain ⟨a2, f2, h2, l2⟩ := sum_lz a1 nm 7 8 l1 hnm8 (by omega)
        obtain ⟨a3, f3, h3, l3⟩ := sum_lz s a2 51010 15 hsz l2 (by omega)
        have X3 := (X2.alloc (.cells #[.string ⟨#[]⟩, .string ⟨#[104, 111, 115, 116]⟩, .string ⟨#[114, 111, 117, 116, 101, 114]⟩, .string ⟨#[102, 105, 114, 101]⟩, .string ⟨#[110, 97, 116]⟩, .string ⟨#[108, 98]⟩] 9)).drew
        have T3 := (T2.alloc (.cells #[.string ⟨#[]⟩, .string ⟨#[104, 111, 115, 116]⟩, .string ⟨#[114, 111, 117, 116, 101, 114]⟩, .string ⟨#[102, 105, 114, 101]⟩, .string ⟨#[110, 97, 116]⟩, .string ⟨#[108, 98]⟩] 9)).drew
        have Z3 := (blk_new (wr.alloc (.cells #[.string nm, .int .i64 3, .int .i64 ad, .int .u8 (pl : Int), .slice Ab nb cb, .slice Ar d.rules.length cr, .slice At d.routes.length ct] 41)) #[.string ⟨#[]⟩, .string ⟨#[104, 111, 115, 116]⟩, .string ⟨#[114, 111, 117, 116, 101, 114]⟩, .string ⟨#[102, 105, 114, 101]⟩, .string ⟨#[110, 97, 116]⟩, .string ⟨#[108, 98]⟩] 9).drew
        rw [World.size_alloc] at Z3
        have z3 := Z3.cell 3 _ rfl
        have y0 := X3.cell 0 _ rfl
        have y1 := X3.cell 1 _ rfl
        have y2 := X3.cell 2 _ rfl
        have y3 := X3.cell 3 _ rfl
        have y4 := X3.cell 4 _ rfl
        have y5 := X3.cell 5 _ rfl
        have y6 := X3.cell 6 _ rfl
        clear HADR NBK
        go_wp2_with fail
        go_region
        clear c0 c1 c2 c3 c4 c5 c6 q0 q1 Z3 z3 b0 b1 T1 T2 X2
        generalize wr.heap.size = xd at *
        obtain ⟨s4, fN, hN, lN⟩ := sum_lz a3 ⟨#[10]⟩ 51025 1 l3 (by decide) (by omega)
        have HL1 : Hid (s4.data.toList = (ds.take k).flatMap devT ++ lineT dws) := by
          show _ = _
          rw [hN.out, h3.out, h2.out, h1.out, HS.out, HWS.out]
          show _ = _ ++ lineT [kwB 3, nm.data.toList]
          rw [line2]
          simp [kwB]
        go_wp2_with fail
        clear HS h1 h2 h3 hN
        have l4s : s4.size ≤ 51200 := by omega
        go_loopw [4, 9] (fun ot i wr' => ∃ (j : Nat) (sr : ByteArray), ot = .string sr ∧ i = .int .i64 (j : Int) ∧ j ≤ d.rules.length ∧ TS w wr' (.slice (some ⟨g, o, none⟩) ds.length cap) (.slice B ls.length cap') ∧ Blk wr' xd #[.string nm, .int .i64 3, .int .i64 ad, .int .u8 (pl : Int), .slice Ab nb cb, .slice Ar d.rules.length cr, .slice At d.routes.length ct] 41 ∧ Hid (sr.data.toList = s4.data.toList ++ (d.rules.take j).flatMap ruleT)) (fun _ i _ => d.rules.length - (intOf i).toNat)
        case atStart => exact ⟨0, s4, rfl, rfl, by omega, T3, X3, by show _ = _; simp⟩
        case round =>
          obtain ⟨j, sr, rfl, rfl, hj, T5, X5, HJ⟩ := hrel
          have e5 := X5.cell 5 _ rfl
          by_cases hjr : j < d.rules.length
          · obtain ⟨r, hr⟩ : ∃ r, d.rules[j]? = some r := ⟨_, List.getElem?_eq_getElem hjr⟩
            obtain ⟨gr, or, rfl, hgr, c0, c1, c2, c3, c4⟩ := Rules.atN (Y.out _ T5.1).2.1 hr
            have MT : Hid (∀ w, Calls Tryd.prog 18 #[.agg #[.int .u16 (r.a : Int), .int .u16 (r.b : Int), .int .u8 (r.c : Int), .int .u8 (r.d : Int)]] w fun e w' => e = .returned (.string ⟨(Mt.matT r.a r.b r.c r.d).toArray⟩) ∧ Below w.heap.size w w') := fun w => mtext_any r.a r.b r.c r.d w r.ha r.hb r.hc r.hd
            have HFR : Hid ((d.rules.take (j + 1)).flatMap ruleT = (d.rules.take j).flatMap ruleT ++ ruleT r) := flat_take ruleT hr
            have HRL : Hid (ruleT r = ruleW r.ok ++ ([32] ++ (Mt.matT r.a r.b r.c r.d ++ [10]))) := line2 _ _
            have hml := Mt.matT_len r.a r.b r.c r.d
            obtain ⟨rb, hrb⟩ : ∃ rb : ByteArray, rb = ⟨(Mt.matT r.a r.b r.c r.d).toArray⟩ := ⟨_, rfl⟩
            have hrl : rb.data.toList = Mt.matT r.a r.b r.c r.d := by rw [hrb]
            have lrb : rb.size ≤ 300 := szl hrl hml
            rw [← hrb] at MT
            have HRB : Hid (rb.data.toList = Mt.matT r.a r.b r.c r.d) := hrl
            clear hrb hrl hr hml
            have lsr : sr.size ≤ 57000 := szl HJ.out (by
              have h1 := flat_pre ruleT 603 d.rules (fun r _ => ruleT_len r) j hj
              have h2 : 603 * j ≤ 603 * 8 := Nat.mul_le_mul_left _ (by omega)
              rw [List.length_append, ← Lib.size_eq]
              omega)
            have j1 : (0 : Int) ≤ (j : Int) := by omega
            have j2 : (j : Int) < (d.rules.length : Int) := by omega
            generalize Mt.matT r.a r.b r.c r.d = mt0 at *
            generalize r.a = qa at *
            generalize r.b = qb at *
            generalize r.c = qc at *
            generalize r.d = qd at *
            cases hok : r.ok
            · obtain ⟨s5, g5, k5, m5⟩ := sum_lz ⟨#[100, 101, 110, 121, 32]⟩ rb 5 300 (by decide) lrb (by omega)
              obtain ⟨s6, g6, k6, m6⟩ := sum_lz s5 ⟨#[10]⟩ 305 1 m5 (by decide) (by omega)
              obtain ⟨s7, g7, k7, m7⟩ := sum_lz sr s6 57000 306 lsr m6 (by omega)
              have HV : Hid (s7.data.toList = s4.data.toList ++ (d.rules.take (j + 1)).flatMap ruleT) := by
                show _ = _
                rw [k7.out, k6.out, k5.out, HRB.out, HJ.out, HFR.out, HRL.out, hok]
                simp [ruleW]
              rw [hok] at c0
              clear k5 k6 k7 HRL HFR HJ HRB hok
              go_wp2_with fail
              refine (MT.out _).mono ?_
              rintro e w7 ⟨rfl, hb7⟩
              have T8 := T5.keep hb7
              have X8 := X5.keep hb7
              clear hb7 T5 X5 e5 c0 c1 c2 c3 c4
              go_wp2_with fail
              go_roundw
              case rel => exact ⟨j + 1, s7, rfl, by go_num, by omega, T8, X8, HV⟩
              case measure => simp [intOf]; omega
            · obtain ⟨s5, g5, k5, m5⟩ := sum_lz ⟨#[112, 101, 114, 109, 105, 116, 32]⟩ rb 7 300 (by decide) lrb (by omega)
              obtain ⟨s6, g6, k6, m6⟩ := sum_lz s5 ⟨#[10]⟩ 307 1 m5 (by decide) (by omega)
              obtain ⟨s7, g7, k7, m7⟩ := sum_lz sr s6 57000 308 lsr m6 (by omega)
              have HV : Hid (s7.data.toList = s4.data.toList ++ (d.rules.take (j + 1)).flatMap ruleT) := by
                show _ = _
                rw [k7.out, k6.out, k5.out, HRB.out, HJ.out, HFR.out, HRL.out, hok]
                simp [ruleW]
              rw [hok] at c0
              clear k5 k6 k7 HRL HFR HJ HRB hok
              go_wp2_with fail
              refine (MT.out _).mono ?_
              rintro e w7 ⟨rfl, hb7⟩
              have T8 := T5.keep hb7
              have X8 := X5.keep hb7
              clear hb7 T5 X5 e5 c0 c1 c2 c3 c4
              go_wp2_with fail
              go_roundw
              case rel => exact ⟨j + 1, s7, rfl, by go_num, by omega, T8, X8, HV⟩
              case measure => simp [intOf]; omega
          · have HJ2 : Hid (sr.data.toList = s4.data.toList ++ d.rules.flatMap ruleT) := by
              show _ = _
              rw [HJ.out, show j = d.rules.length by omega, List.take_length]
            have lsr : sr.size ≤ 57000 := szl HJ.out (by
              have h1 := flat_pre ruleT 603 d.rules (fun r _ => ruleT_len r) j hj
              have h2 : 603 * j ≤ 603 * 8 := Nat.mul_le_mul_left _ (by omega)
              rw [List.length_append, ← Lib.size_eq]
              omega)
            clear HJ
            have e6 := X5.cell 6 _ rfl
            go_wp2_with fail
            clear e6 e5
            go_loopw [4, 11] (fun ot i wr' => ∃ (m : Nat) (st : ByteArray), ot = .string st ∧ i = .int .i64 (m : Int) ∧ m ≤ d.routes.length ∧ TS w wr' (.slice (some ⟨g, o, none⟩) ds.length cap) (.slice B ls.length cap') ∧ Blk wr' xd #[.string nm, .int .i64 3, .int .i64 ad, .int .u8 (pl : Int), .slice Ab nb cb, .slice Ar d.rules.length cr, .slice At d.routes.length ct] 41 ∧ Hid (st.data.toList = sr.data.toList ++ (d.routes.take m).flatMap routeT)) (fun _ i _ => d.routes.length - (intOf i).toNat)
            case atStart => exact ⟨0, sr, rfl, rfl, by omega, T5, X5, by show _ = _; simp⟩
            case round =>
              clear T5 X5
              obtain ⟨m, st, rfl, rfl, hm3, T5, X5, HJ⟩ := hrel
              have e6 := X5.cell 6 _ rfl
              by_cases hmr : m < d.routes.length
              · obtain ⟨r, hr⟩ : ∃ r, d.routes[m]? = some r := ⟨_, List.getElem?_eq_getElem hmr⟩
                obtain ⟨gr, or, rfl, hgr, c0, c1, c2⟩ := Routes.atN (Y.out _ T5.1).2.2 hr
                have hir := HRT.out r (List.mem_of_getElem? hr)
                obtain ⟨⟨v0, v1⟩, ⟨p0, p1⟩, u0, u1⟩ := isR_nums hir
                obtain ⟨i1, hi1, li1, J1⟩ := itoa_ex r.v v0 (by omega)
                obtain ⟨i2, hi2, li2, J2⟩ := itoa_ex r.b p0 (by omega)
                obtain ⟨i3, hi3, li3, J3⟩ := itoa_ex r.p u0 (by omega)
                have lst : st.size ≤ 58000 := szl HJ.out (by
                  have h1 := flat_pre routeT 22 d.routes (fun r hr => routeT_len (HRT.out r hr)) m hm3
                  have h2 : 22 * m ≤ 22 * 8 := Nat.mul_le_mul_left _ (by omega)
                  rw [List.length_append, ← Lib.size_eq]
                  omega)
                obtain ⟨t1', g1, n1, q1⟩ := sum_lz ⟨#[114, 111, 117, 116, 101, 32]⟩ i1 6 2 (by decide) li1 (by omega)
                obtain ⟨t2', g2, n2, q2⟩ := sum_lz t1' ⟨#[47]⟩ 8 1 q1 (by decide) (by omega)
                obtain ⟨t3', g3, n3, q3⟩ := sum_lz t2' i2 9 2 q2 li2 (by omega)
                obtain ⟨t4', g4, n4, q4⟩ := sum_lz t3' ⟨#[32]⟩ 11 1 q3 (by decide) (by omega)
                obtain ⟨t5', g5, n5, q5⟩ := sum_lz t4' i3 12 2 q4 li3 (by omega)
                obtain ⟨t6', g6, n6, q6⟩ := sum_lz t5' ⟨#[10]⟩ 14 1 q5 (by decide) (by omega)
                obtain ⟨t7', g7, n7, q7⟩ := sum_lz st t6' 58000 15 lst q6 (by omega)
                have HFR : Hid ((d.routes.take (m + 1)).flatMap routeT = (d.routes.take m).flatMap routeT ++ routeT r) := flat_take routeT hr
                have HV : Hid (t7'.data.toList = sr.data.toList ++ (d.routes.take (m + 1)).flatMap routeT) := by
                  show _ = _
                  rw [n7.out, n6.out, n5.out, n4.out, n3.out, n2.out, n1.out, hi1.out, hi2.out, hi3.out, HJ.out, HFR.out]
                  unfold routeT
                  rw [line3]
                  simp [routeW]
                clear hr hir hi1 hi2 hi3 v0 v1 p0 p1 u0 u1 n1 n2 n3 n4 n5 n6 n7 HJ HFR
                have j1 : (0 : Int) ≤ (m : Int) := by omega
                have j2 : (m : Int) < (d.routes.length : Int) := by omega
                obtain ⟨rv, hrv⟩ : ∃ rv, rv = r.v := ⟨_, rfl⟩
                obtain ⟨rb, hrb⟩ : ∃ rb, rb = r.b := ⟨_, rfl⟩
                obtain ⟨rp, hrp⟩ : ∃ rp, rp = r.p := ⟨_, rfl⟩
                rw [← hrv] at J1 c0
                rw [← hrb] at J2 c1
                rw [← hrp] at J3 c2
                clear hrv hrb hrp
                have R6 := blk_new wr #[.int .i64 rv, .int .i64 rb, .int .i64 rp] 60
                have T6 := T5.alloc (.cells #[.int .i64 rv, .int .i64 rb, .int .i64 rp] 60)
                have X6 := X5.alloc (.cells #[.int .i64 rv, .int .i64 rb, .int .i64 rp] 60)
                have m0 := R6.cell 0 _ rfl
                have m1 := R6.cell 1 _ rfl
                have m2 := R6.cell 2 _ rfl
                clear T5 X5
                go_wp2_with fail
                go_quiet ((first | (go_at_call_of 15 (Value.int .i64 rv); exact Calls.quiet_of_same (J1.out _)) | (go_at_call_of 15 (Value.int .i64 rb); exact Calls.quiet_of_same (J2.out _)) | (go_at_call_of 15 (Value.int .i64 rp); exact Calls.quiet_of_same (J3.out _))))
                go_wp2_with fail
                go_roundw
                case rel => exact ⟨m + 1, t7', rfl, by go_num, by omega, T6.keep (belowNN (Below.refl _ _) _), X6.keep (belowNN (Below.refl _ _) _), HV⟩
                case measure => simp [intOf]; omega
              · have HV : Hid (st.data.toList = (ds.take (k + 1)).flatMap devT) := by
                  show _ = _
                  rw [HJ.out, show m = d.routes.length by omega, List.take_length, HJ2.out, HL1.out, HT.out, HDT.out]
                  simp only [List.append_assoc]
                go_wp2_with fail
                go_roundw
                case rel => first | exact ⟨k + 1, st, rfl, by go_num, by omega, T5, HV⟩ | ((repeat apply Exists.intro); exact ⟨⟨k + 1, st, rfl, by go_num, by omega, T5, HV⟩, rfl⟩)
                case measure => simp [intOf]; omega
      · have X2 := blk_new wr #[.string nm, .int .i64 4, .int .i64 ad, .int .u8 (pl : Int), .slice Ab nb cb, .slice Ar d.rules.length cr, .slice At d.routes.length ct] 41
        have T2 := T1.alloc (.cells #[.string nm, .int .i64 4, .int .i64 ad, .int .u8 (pl : Int), .slice Ab nb cb, .slice Ar d.rules.length cr, .slice At d.routes.length ct] 41)
        have q0 := X2.cell 0 _ rfl
        have q1 := X2.cell 1 _ rfl
        obtain ⟨a1, f1, h1, l1⟩ := sum_lz ⟨#[110, 97, 116]⟩ ⟨#[32]⟩ 6 1 (by decide) (by decide) (by omega)
        obtain ⟨a2, f2, h2, l2⟩ := sum_lz a1 nm 7 8 l1 hnm8 (by omega)
        obtain ⟨a3, f3, h3, l3⟩ := sum_lz s a2 51010 15 hsz l2 (by omega)
        have had := HADR.out rfl
        obtain ⟨x1, hx1, lx1, I1⟩ := itoa_ex ad had.1 (by omega)
        obtain ⟨b2, f4, h4, l4⟩ := sum_lz ⟨#[32]⟩ x1 1 2 (by decide) lx1 (by omega)
        obtain ⟨b3, f5, h5, l5⟩ := sum_lz a3 b2 51025 3 l3 l4 (by omega)
        have X3 := (X2.alloc (.cells #[.string ⟨#[]⟩, .string ⟨#[104, 111, 115, 116]⟩, .string ⟨#[114, 111, 117, 116, 101, 114]⟩, .string ⟨#[102, 105, 114, 101]⟩, .string ⟨#[110, 97, 116]⟩, .string ⟨#[108, 98]⟩] 9)).drew
        have T3 := (T2.alloc (.cells #[.string ⟨#[]⟩, .string ⟨#[104, 111, 115, 116]⟩, .string ⟨#[114, 111, 117, 116, 101, 114]⟩, .string ⟨#[102, 105, 114, 101]⟩, .string ⟨#[110, 97, 116]⟩, .string ⟨#[108, 98]⟩] 9)).drew
        have Z3 := (blk_new (wr.alloc (.cells #[.string nm, .int .i64 4, .int .i64 ad, .int .u8 (pl : Int), .slice Ab nb cb, .slice Ar d.rules.length cr, .slice At d.routes.length ct] 41)) #[.string ⟨#[]⟩, .string ⟨#[104, 111, 115, 116]⟩, .string ⟨#[114, 111, 117, 116, 101, 114]⟩, .string ⟨#[102, 105, 114, 101]⟩, .string ⟨#[110, 97, 116]⟩, .string ⟨#[108, 98]⟩] 9).drew
        rw [World.size_alloc] at Z3
        have z3 := Z3.cell 4 _ rfl
        have y0 := X3.cell 0 _ rfl
        have y1 := X3.cell 1 _ rfl
        have y2 := X3.cell 2 _ rfl
        have y3 := X3.cell 3 _ rfl
        have y4 := X3.cell 4 _ rfl
        have y5 := X3.cell 5 _ rfl
        have y6 := X3.cell 6 _ rfl
        clear HADR NBK
        go_wp2_with fail
        go_region
        clear c0 c1 c2 c3 c4 c5 c6 q0 q1 Z3 z3 b0 b1 T1 T2 X2
        generalize wr.heap.size = xd at *
        go_wp2_with (go_at_call 15; refine (I1.out _).mono ?_; rintro e w' ⟨rfl, rfl⟩)
        obtain ⟨W0, hW0⟩ : ∃ W0 : World, W0 = ((wr.alloc (.cells #[.string nm, .int .i64 4, .int .i64 ad, .int .u8 (pl : Int), .slice Ab nb cb, .slice Ar d.rules.length cr, .slice At d.routes.length ct] 41)).alloc (.cells #[.string ⟨#[]⟩, .string ⟨#[104, 111, 115, 116]⟩, .string ⟨#[114, 111, 117, 116, 101, 114]⟩, .string ⟨#[102, 105, 114, 101]⟩, .string ⟨#[110, 97, 116]⟩, .string ⟨#[108, 98]⟩] 9)).drew := ⟨_, rfl⟩
        rw [← hW0] at T3 X3 y0 y1 y2 y3 y4 y5 y6
        have wpl : IntKind.i64.wrap (pl : Int) = (pl : Int) := IntWalk.i64_in _ (by omega)
        have HAS : Hid (∀ (j : Nat) (w : World), Calls Tryd.prog 16 #[.int .i64 (pl : Int), .int .i64 (j : Int)] w fun e w' => e = .returned (.bool (pl.testBit j)) ∧ w' = w) := fun j w => by
          have := rhas_any pl (j : Int) w (by omega)
          rw [hasB_nat] at this
          exact this
        have CM : Hid (∀ (v : Value) (base : Nat) (W : World), W.ownsRow base 3 1 v (poolL pl).length (intsC (poolL pl)) → Calls Tryd.prog 17 #[v] W fun e w' => ∃ s : ByteArray, e = .returned (.string s) ∧ Hid (s.data.toList = numsT (poolL pl)) ∧ s.size ≤ 24 ∧ w' = W) := fun v base W h => commas_any v _ W (ints_own h) (poolL_len pl) (fun x hx => by have := poolL_mem hx; omega)
        go_loopw [7, 8] (fun v i wr' => ∃ j : Nat, i = .int .i64 (j : Int) ∧ j ≤ 8 ∧ wr'.ownsRow W0.heap.size 3 1 v (poolU pl j).length (intsC (poolU pl j)) ∧ Below W0.heap.size W0 wr') (fun _ i _ => 8 - (intOf i).toNat)
        case atStart => exact ⟨0, rfl, by omega, ⟨rfl, .inl ⟨rfl, rfl⟩⟩, by rw [hW0]; exact Below.refl _ _⟩
        case round =>
          clear hW0
          obtain ⟨j, rfl, hj, O1, E1⟩ := hrel
          have X4 := X3.keep E1
          have T4 := T3.keep E1
          have e3 := X4.cell 3 _ rfl
          by_cases hj8 : j < 8
          · have HS8 := poolU_succ pl j
            have hl8 := poolU_len pl j
            have HASj : Hid (∀ (w : World), Calls Tryd.prog 16 #[.int .i64 (pl : Int), .int .i64 (j : Int)] w fun e w' => e = .returned (.bool (pl.testBit j)) ∧ w' = w) := HAS.out j
            have j8 : (j : Int) < 8 := by omega
            cases ht : pl.testBit j
            · rw [ht] at HASj HS8
              have HS2 : poolU pl (j + 1) = poolU pl j := HS8
              rw [← HS2] at O1
              clear HS8 HS2 ht hl8
              go_wp2_with (go_at_call 16; refine (HASj.out _).mono ?_; rintro e w' ⟨rfl, rfl⟩)
              go_roundw
              case rel => exact ⟨j + 1, by go_num, by omega, O1, E1⟩
              case measure => simp [intOf]; omega
            · rw [ht] at HASj HS8
              have HS2 : poolU pl (j + 1) = poolU pl j ++ [(j : Int)] := HS8
              obtain ⟨v2, w2, r2, O2, hb2⟩ := app_new (t := 37) (e := 3) Tryd.underlying37 Tryd.infoIntN rfl (by omega) 37 O1 (u := .int .i64 (j : Int)) rfl (by omega) E1.size
              have O3 : w2.ownsRow W0.heap.size 3 1 v2 (poolU pl (j + 1)).length (intsC (poolU pl (j + 1))) := by
                rw [HS2]
                have e : (poolU pl j ++ [(j : Int)]).length = (poolU pl j).length + 1 := by simp
                rw [e]
                have e2 : intsC (poolU pl j ++ [(j : Int)]) = intsC (poolU pl j) ++ [.int .i64 (j : Int)] := by simp [intsC]
                rw [e2]
                exact O2
              have E2 := E1.trans hb2
              clear HS8 HS2 O1 O2 ht hl8 hb2
              go_wp2_with (first | (at_builtin; refine append_run2 rfl _ _ 37 rfl rfl rfl r2 ?_) | (go_at_call 16; refine (HASj.out _).mono ?_; rintro e w' ⟨rfl, rfl⟩))
              go_roundw
              case rel => first | exact ⟨j + 1, by go_num, by omega, O3, E2⟩ | ((repeat apply Exists.intro); exact ⟨⟨j + 1, by go_num, by omega, O3, E2⟩, rfl⟩)
              case measure => simp [intOf]; omega
          · obtain rfl : j = 8 := by omega
            clear X3 T3 y0 y1 y2 y3 y4 y5 y6
            have y0 := X4.cell 0 _ rfl
            have y1 := X4.cell 1 _ rfl
            have y2 := X4.cell 2 _ rfl
            have y3 := X4.cell 3 _ rfl
            have y4 := X4.cell 4 _ rfl
            have y5 := X4.cell 5 _ rfl
            have y6 := X4.cell 6 _ rfl
            go_wp2_with fail
            refine (CM.out _ _ _ O1).mono ?_
            rintro e w6 ⟨x6, rfl, hx6, lx6, rfl⟩
            obtain ⟨b6, f6, h6, l6⟩ := sum_lz ⟨#[32]⟩ x6 1 24 (by decide) lx6 (by omega)
            obtain ⟨b7, f7, h7, l7⟩ := sum_lz b3 b6 51028 25 l5 l6 (by omega)
            obtain ⟨s4, fN, hN, lN⟩ := sum_lz b7 ⟨#[10]⟩ 51053 1 l7 (by decide) (by omega)
            have HL1 : Hid (s4.data.toList = (ds.take k).flatMap devT ++ lineT dws) := by
              show _ = _
              rw [hN.out, h7.out, h6.out, hx6.out, h5.out, h4.out, hx1.out, h3.out, h2.out, h1.out, HS.out, HWS.out]
              show _ = _ ++ lineT [kwB 4, nm.data.toList, dcB ad, numsT (poolL pl)]
              rw [line4]
              simp [kwB]
            go_wp2_with fail
            clear HS h1 h2 h3 hN
            have l4s : s4.size ≤ 51200 := by omega
            go_loopw [4, 9] (fun ot i wr' => ∃ (j : Nat) (sr : ByteArray), ot = .string sr ∧ i = .int .i64 (j : Int) ∧ j ≤ d.rules.length ∧ TS w wr' (.slice (some ⟨g, o, none⟩) ds.length cap) (.slice B ls.length cap') ∧ Blk wr' xd #[.string nm, .int .i64 4, .int .i64 ad, .int .u8 (pl : Int), .slice Ab nb cb, .slice Ar d.rules.length cr, .slice At d.routes.length ct] 41 ∧ Hid (sr.data.toList = s4.data.toList ++ (d.rules.take j).flatMap ruleT)) (fun _ i _ => d.rules.length - (intOf i).toNat)
            case atStart => exact ⟨0, s4, rfl, rfl, by omega, T4, X4, by show _ = _; simp⟩
            case round =>
              obtain ⟨j, sr, rfl, rfl, hj, T5, X5, HJ⟩ := hrel
              have e5 := X5.cell 5 _ rfl
              by_cases hjr : j < d.rules.length
              · obtain ⟨r, hr⟩ : ∃ r, d.rules[j]? = some r := ⟨_, List.getElem?_eq_getElem hjr⟩
                obtain ⟨gr, or, rfl, hgr, c0, c1, c2, c3, c4⟩ := Rules.atN (Y.out _ T5.1).2.1 hr
                have MT : Hid (∀ w, Calls Tryd.prog 18 #[.agg #[.int .u16 (r.a : Int), .int .u16 (r.b : Int), .int .u8 (r.c : Int), .int .u8 (r.d : Int)]] w fun e w' => e = .returned (.string ⟨(Mt.matT r.a r.b r.c r.d).toArray⟩) ∧ Below w.heap.size w w') := fun w => mtext_any r.a r.b r.c r.d w r.ha r.hb r.hc r.hd
                have HFR : Hid ((d.rules.take (j + 1)).flatMap ruleT = (d.rules.take j).flatMap ruleT ++ ruleT r) := flat_take ruleT hr
                have HRL : Hid (ruleT r = ruleW r.ok ++ ([32] ++ (Mt.matT r.a r.b r.c r.d ++ [10]))) := line2 _ _
                have hml := Mt.matT_len r.a r.b r.c r.d
                obtain ⟨rb, hrb⟩ : ∃ rb : ByteArray, rb = ⟨(Mt.matT r.a r.b r.c r.d).toArray⟩ := ⟨_, rfl⟩
                have hrl : rb.data.toList = Mt.matT r.a r.b r.c r.d := by rw [hrb]
                have lrb : rb.size ≤ 300 := szl hrl hml
                rw [← hrb] at MT
                have HRB : Hid (rb.data.toList = Mt.matT r.a r.b r.c r.d) := hrl
                clear hrb hrl hr hml
                have lsr : sr.size ≤ 57000 := szl HJ.out (by
                  have h1 := flat_pre ruleT 603 d.rules (fun r _ => ruleT_len r) j hj
                  have h2 : 603 * j ≤ 603 * 8 := Nat.mul_le_mul_left _ (by omega)
                  rw [List.length_append, ← Lib.size_eq]
                  omega)
                have j1 : (0 : Int) ≤ (j : Int) := by omega
                have j2 : (j : Int) < (d.rules.length : Int) := by omega
                generalize Mt.matT r.a r.b r.c r.d = mt0 at *
                generalize r.a = qa at *
                generalize r.b = qb at *
                generalize r.c = qc at *
                generalize r.d = qd at *
                cases hok : r.ok
                · obtain ⟨s5, g5, k5, m5⟩ := sum_lz ⟨#[100, 101, 110, 121, 32]⟩ rb 5 300 (by decide) lrb (by omega)
                  obtain ⟨s6, g6, k6, m6⟩ := sum_lz s5 ⟨#[10]⟩ 305 1 m5 (by decide) (by omega)
                  obtain ⟨s7, g7, k7, m7⟩ := sum_lz sr s6 57000 306 lsr m6 (by omega)
                  have HV : Hid (s7.data.toList = s4.data.toList ++ (d.rules.take (j + 1)).flatMap ruleT) := by
                    show _ = _
                    rw [k7.out, k6.out, k5.out, HRB.out, HJ.out, HFR.out, HRL.out, hok]
                    simp [ruleW]
                  rw [hok] at c0
                  clear k5 k6 k7 HRL HFR HJ HRB hok
                  go_wp2_with fail
                  refine (MT.out _).mono ?_
                  rintro e w7 ⟨rfl, hb7⟩
                  have T8 := T5.keep hb7
                  have X8 := X5.keep hb7
                  clear hb7 T5 X5 e5 c0 c1 c2 c3 c4
                  go_wp2_with fail
                  go_roundw
                  case rel => exact ⟨j + 1, s7, rfl, by go_num, by omega, T8, X8, HV⟩
                  case measure => simp [intOf]; omega
                · obtain ⟨s5, g5, k5, m5⟩ := sum_lz ⟨#[112, 101, 114, 109, 105, 116, 32]⟩ rb 7 300 (by decide) lrb (by omega)
                  obtain ⟨s6, g6, k6, m6⟩ := sum_lz s5 ⟨#[10]⟩ 307 1 m5 (by decide) (by omega)
                  obtain ⟨s7, g7, k7, m7⟩ := sum_lz sr s6 57000 308 lsr m6 (by omega)
                  have HV : Hid (s7.data.toList = s4.data.toList ++ (d.rules.take (j + 1)).flatMap ruleT) := by
                    show _ = _
                    rw [k7.out, k6.out, k5.out, HRB.out, HJ.out, HFR.out, HRL.out, hok]
                    simp [ruleW]
                  rw [hok] at c0
                  clear k5 k6 k7 HRL HFR HJ HRB hok
                  go_wp2_with fail
                  refine (MT.out _).mono ?_
                  rintro e w7 ⟨rfl, hb7⟩
                  have T8 := T5.keep hb7
                  have X8 := X5.keep hb7
                  clear hb7 T5 X5 e5 c0 c1 c2 c3 c4
                  go_wp2_with fail
                  go_roundw
                  case rel => exact ⟨j + 1, s7, rfl, by go_num, by omega, T8, X8, HV⟩
                  case measure => simp [intOf]; omega
              · have HJ2 : Hid (sr.data.toList = s4.data.toList ++ d.rules.flatMap ruleT) := by
                  show _ = _
                  rw [HJ.out, show j = d.rules.length by omega, List.take_length]
                have lsr : sr.size ≤ 57000 := szl HJ.out (by
                  have h1 := flat_pre ruleT 603 d.rules (fun r _ => ruleT_len r) j hj
                  have h2 : 603 * j ≤ 603 * 8 := Nat.mul_le_mul_left _ (by omega)
                  rw [List.length_append, ← Lib.size_eq]
                  omega)
                clear HJ
                have e6 := X5.cell 6 _ rfl
                go_wp2_with fail
                clear e6 e5
                go_loopw [4, 11] (fun ot i wr' => ∃ (m : Nat) (st : ByteArray), ot = .string st ∧ i = .int .i64 (m : Int) ∧ m ≤ d.routes.length ∧ TS w wr' (.slice (some ⟨g, o, none⟩) ds.length cap) (.slice B ls.length cap') ∧ Blk wr' xd #[.string nm, .int .i64 4, .int .i64 ad, .int .u8 (pl : Int), .slice Ab nb cb, .slice Ar d.rules.length cr, .slice At d.routes.length ct] 41 ∧ Hid (st.data.toList = sr.data.toList ++ (d.routes.take m).flatMap routeT)) (fun _ i _ => d.routes.length - (intOf i).toNat)
                case atStart => exact ⟨0, sr, rfl, rfl, by omega, T5, X5, by show _ = _; simp⟩
                case round =>
                  clear T5 X5
                  obtain ⟨m, st, rfl, rfl, hm3, T5, X5, HJ⟩ := hrel
                  have e6 := X5.cell 6 _ rfl
                  by_cases hmr : m < d.routes.length
                  · obtain ⟨r, hr⟩ : ∃ r, d.routes[m]? = some r := ⟨_, List.getElem?_eq_getElem hmr⟩
                    obtain ⟨gr, or, rfl, hgr, c0, c1, c2⟩ := Routes.atN (Y.out _ T5.1).2.2 hr
                    have hir := HRT.out r (List.mem_of_getElem? hr)
                    obtain ⟨⟨v0, v1⟩, ⟨p0, p1⟩, u0, u1⟩ := isR_nums hir
                    obtain ⟨i1, hi1, li1, J1⟩ := itoa_ex r.v v0 (by omega)
                    obtain ⟨i2, hi2, li2, J2⟩ := itoa_ex r.b p0 (by omega)
                    obtain ⟨i3, hi3, li3, J3⟩ := itoa_ex r.p u0 (by omega)
                    have lst : st.size ≤ 58000 := szl HJ.out (by
                      have h1 := flat_pre routeT 22 d.routes (fun r hr => routeT_len (HRT.out r hr)) m hm3
                      have h2 : 22 * m ≤ 22 * 8 := Nat.mul_le_mul_left _ (by omega)
                      rw [List.length_append, ← Lib.size_eq]
                      omega)
                    obtain ⟨t1', g1, n1, q1⟩ := sum_lz ⟨#[114, 111, 117, 116, 101, 32]⟩ i1 6 2 (by decide) li1 (by omega)
                    obtain ⟨t2', g2, n2, q2⟩ := sum_lz t1' ⟨#[47]⟩ 8 1 q1 (by decide) (by omega)
                    obtain ⟨t3', g3, n3, q3⟩ := sum_lz t2' i2 9 2 q2 li2 (by omega)
                    obtain ⟨t4', g4, n4, q4⟩ := sum_lz t3' ⟨#[32]⟩ 11 1 q3 (by decide) (by omega)
                    obtain ⟨t5', g5, n5, q5⟩ := sum_lz t4' i3 12 2 q4 li3 (by omega)
                    obtain ⟨t6', g6, n6, q6⟩ := sum_lz t5' ⟨#[10]⟩ 14 1 q5 (by decide) (by omega)
                    obtain ⟨t7', g7, n7, q7⟩ := sum_lz st t6' 58000 15 lst q6 (by omega)
                    have HFR : Hid ((d.routes.take (m + 1)).flatMap routeT = (d.routes.take m).flatMap routeT ++ routeT r) := flat_take routeT hr
                    have HV : Hid (t7'.data.toList = sr.data.toList ++ (d.routes.take (m + 1)).flatMap routeT) := by
                      show _ = _
                      rw [n7.out, n6.out, n5.out, n4.out, n3.out, n2.out, n1.out, hi1.out, hi2.out, hi3.out, HJ.out, HFR.out]
                      unfold routeT
                      rw [line3]
                      simp [routeW]
                    clear hr hir hi1 hi2 hi3 v0 v1 p0 p1 u0 u1 n1 n2 n3 n4 n5 n6 n7 HJ HFR
                    have j1 : (0 : Int) ≤ (m : Int) := by omega
                    have j2 : (m : Int) < (d.routes.length : Int) := by omega
                    obtain ⟨rv, hrv⟩ : ∃ rv, rv = r.v := ⟨_, rfl⟩
                    obtain ⟨rb, hrb⟩ : ∃ rb, rb = r.b := ⟨_, rfl⟩
                    obtain ⟨rp, hrp⟩ : ∃ rp, rp = r.p := ⟨_, rfl⟩
                    rw [← hrv] at J1 c0
                    rw [← hrb] at J2 c1
                    rw [← hrp] at J3 c2
                    clear hrv hrb hrp
                    have R6 := blk_new wr #[.int .i64 rv, .int .i64 rb, .int .i64 rp] 60
                    have T6 := T5.alloc (.cells #[.int .i64 rv, .int .i64 rb, .int .i64 rp] 60)
                    have X6 := X5.alloc (.cells #[.int .i64 rv, .int .i64 rb, .int .i64 rp] 60)
                    have m0 := R6.cell 0 _ rfl
                    have m1 := R6.cell 1 _ rfl
                    have m2 := R6.cell 2 _ rfl
                    clear T5 X5
                    go_wp2_with fail
                    go_quiet ((first | (go_at_call_of 15 (Value.int .i64 rv); exact Calls.quiet_of_same (J1.out _)) | (go_at_call_of 15 (Value.int .i64 rb); exact Calls.quiet_of_same (J2.out _)) | (go_at_call_of 15 (Value.int .i64 rp); exact Calls.quiet_of_same (J3.out _))))
                    go_wp2_with fail
                    go_roundw
                    case rel => exact ⟨m + 1, t7', rfl, by go_num, by omega, T6.keep (belowNN (Below.refl _ _) _), X6.keep (belowNN (Below.refl _ _) _), HV⟩
                    case measure => simp [intOf]; omega
                  · have HV : Hid (st.data.toList = (ds.take (k + 1)).flatMap devT) := by
                      show _ = _
                      rw [HJ.out, show m = d.routes.length by omega, List.take_length, HJ2.out, HL1.out, HT.out, HDT.out]
                      simp only [List.append_assoc]
                    go_wp2_with fail
                    go_roundw
                    case rel => first | exact ⟨k + 1, st, rfl, by go_num, by omega, T5, HV⟩ | ((repeat apply Exists.intro); exact ⟨⟨k + 1, st, rfl, by go_num, by omega, T5, HV⟩, rfl⟩)
                    case measure => simp [intOf]; omega
      · have X2 := blk_new wr #[.string nm, .int .i64 5, .int .i64 ad, .int .u8 (pl : Int), .slice Ab nb cb, .slice Ar d.rules.length cr, .slice At d.routes.length ct] 41
        have T2 := T1.alloc (.cells #[.string nm, .int .i64 5, .int .i64 ad, .int .u8 (pl : Int), .slice Ab nb cb, .slice Ar d.rules.length cr, .slice At d.routes.length ct] 41)
        have q0 := X2.cell 0 _ rfl
        have q1 := X2.cell 1 _ rfl
        obtain ⟨a1, f1, h1, l1⟩ := sum_lz ⟨#[108, 98]⟩ ⟨#[32]⟩ 6 1 (by decide) (by decide) (by omega)
        obtain ⟨a2, f2, h2, l2⟩ := sum_lz a1 nm 7 8 l1 hnm8 (by omega)
        obtain ⟨a3, f3, h3, l3⟩ := sum_lz s a2 51010 15 hsz l2 (by omega)
        have had := HADR.out rfl
        obtain ⟨x1, hx1, lx1, I1⟩ := itoa_ex ad had.1 (by omega)
        obtain ⟨b2, f4, h4, l4⟩ := sum_lz ⟨#[32]⟩ x1 1 2 (by decide) lx1 (by omega)
        obtain ⟨b3, f5, h5, l5⟩ := sum_lz a3 b2 51025 3 l3 l4 (by omega)
        have X3 := (X2.alloc (.cells #[.string ⟨#[]⟩, .string ⟨#[104, 111, 115, 116]⟩, .string ⟨#[114, 111, 117, 116, 101, 114]⟩, .string ⟨#[102, 105, 114, 101]⟩, .string ⟨#[110, 97, 116]⟩, .string ⟨#[108, 98]⟩] 9)).drew
        have T3 := (T2.alloc (.cells #[.string ⟨#[]⟩, .string ⟨#[104, 111, 115, 116]⟩, .string ⟨#[114, 111, 117, 116, 101, 114]⟩, .string ⟨#[102, 105, 114, 101]⟩, .string ⟨#[110, 97, 116]⟩, .string ⟨#[108, 98]⟩] 9)).drew
        have Z3 := (blk_new (wr.alloc (.cells #[.string nm, .int .i64 5, .int .i64 ad, .int .u8 (pl : Int), .slice Ab nb cb, .slice Ar d.rules.length cr, .slice At d.routes.length ct] 41)) #[.string ⟨#[]⟩, .string ⟨#[104, 111, 115, 116]⟩, .string ⟨#[114, 111, 117, 116, 101, 114]⟩, .string ⟨#[102, 105, 114, 101]⟩, .string ⟨#[110, 97, 116]⟩, .string ⟨#[108, 98]⟩] 9).drew
        rw [World.size_alloc] at Z3
        have z3 := Z3.cell 5 _ rfl
        have y0 := X3.cell 0 _ rfl
        have y1 := X3.cell 1 _ rfl
        have y2 := X3.cell 2 _ rfl
        have y3 := X3.cell 3 _ rfl
        have y4 := X3.cell 4 _ rfl
        have y5 := X3.cell 5 _ rfl
        have y6 := X3.cell 6 _ rfl
        clear HADR
        go_wp2_with fail
        go_region
        clear c0 c1 c2 c3 c4 c5 c6 q0 q1 Z3 z3 b0 b1 T1 T2 X2
        generalize wr.heap.size = xd at *
        go_wp2_with (go_at_call 15; refine (I1.out _).mono ?_; rintro e w' ⟨rfl, rfl⟩)
        refine (NBK.out _ T3.1).mono ?_
        rintro e w6 ⟨x6, rfl, hx6, lx6, rfl⟩
        obtain ⟨b6, f6, h6, l6⟩ := sum_lz ⟨#[32]⟩ x6 1 24 (by decide) lx6 (by omega)
        obtain ⟨b7, f7, h7, l7⟩ := sum_lz b3 b6 51028 25 l5 l6 (by omega)
        obtain ⟨s4, fN, hN, lN⟩ := sum_lz b7 ⟨#[10]⟩ 51053 1 l7 (by decide) (by omega)
        have HL1 : Hid (s4.data.toList = (ds.take k).flatMap devT ++ lineT dws) := by
          show _ = _
          rw [hN.out, h7.out, h6.out, hx6.out, h5.out, h4.out, hx1.out, h3.out, h2.out, h1.out, HS.out, HWS.out]
          show _ = _ ++ lineT [kwB 5, nm.data.toList, dcB ad, numsT d.backs]
          rw [line4]
          simp [kwB]
        go_wp2_with fail
        clear HS h1 h2 h3 hN
        have l4s : s4.size ≤ 51200 := by omega
        go_loopw [4, 9] (fun ot i wr' => ∃ (j : Nat) (sr : ByteArray), ot = .string sr ∧ i = .int .i64 (j : Int) ∧ j ≤ d.rules.length ∧ TS w wr' (.slice (some ⟨g, o, none⟩) ds.length cap) (.slice B ls.length cap') ∧ Blk wr' xd #[.string nm, .int .i64 5, .int .i64 ad, .int .u8 (pl : Int), .slice Ab nb cb, .slice Ar d.rules.length cr, .slice At d.routes.length ct] 41 ∧ Hid (sr.data.toList = s4.data.toList ++ (d.rules.take j).flatMap ruleT)) (fun _ i _ => d.rules.length - (intOf i).toNat)
        case atStart => exact ⟨0, s4, rfl, rfl, by omega, T3, X3, by show _ = _; simp⟩
        case round =>
          obtain ⟨j, sr, rfl, rfl, hj, T5, X5, HJ⟩ := hrel
          have e5 := X5.cell 5 _ rfl
          by_cases hjr : j < d.rules.length
          · obtain ⟨r, hr⟩ : ∃ r, d.rules[j]? = some r := ⟨_, List.getElem?_eq_getElem hjr⟩
            obtain ⟨gr, or, rfl, hgr, c0, c1, c2, c3, c4⟩ := Rules.atN (Y.out _ T5.1).2.1 hr
            have MT : Hid (∀ w, Calls Tryd.prog 18 #[.agg #[.int .u16 (r.a : Int), .int .u16 (r.b : Int), .int .u8 (r.c : Int), .int .u8 (r.d : Int)]] w fun e w' => e = .returned (.string ⟨(Mt.matT r.a r.b r.c r.d).toArray⟩) ∧ Below w.heap.size w w') := fun w => mtext_any r.a r.b r.c r.d w r.ha r.hb r.hc r.hd
            have HFR : Hid ((d.rules.take (j + 1)).flatMap ruleT = (d.rules.take j).flatMap ruleT ++ ruleT r) := flat_take ruleT hr
            have HRL : Hid (ruleT r = ruleW r.ok ++ ([32] ++ (Mt.matT r.a r.b r.c r.d ++ [10]))) := line2 _ _
            have hml := Mt.matT_len r.a r.b r.c r.d
            obtain ⟨rb, hrb⟩ : ∃ rb : ByteArray, rb = ⟨(Mt.matT r.a r.b r.c r.d).toArray⟩ := ⟨_, rfl⟩
            have hrl : rb.data.toList = Mt.matT r.a r.b r.c r.d := by rw [hrb]
            have lrb : rb.size ≤ 300 := szl hrl hml
            rw [← hrb] at MT
            have HRB : Hid (rb.data.toList = Mt.matT r.a r.b r.c r.d) := hrl
            clear hrb hrl hr hml
            have lsr : sr.size ≤ 57000 := szl HJ.out (by
              have h1 := flat_pre ruleT 603 d.rules (fun r _ => ruleT_len r) j hj
              have h2 : 603 * j ≤ 603 * 8 := Nat.mul_le_mul_left _ (by omega)
              rw [List.length_append, ← Lib.size_eq]
              omega)
            have j1 : (0 : Int) ≤ (j : Int) := by omega
            have j2 : (j : Int) < (d.rules.length : Int) := by omega
            generalize Mt.matT r.a r.b r.c r.d = mt0 at *
            generalize r.a = qa at *
            generalize r.b = qb at *
            generalize r.c = qc at *
            generalize r.d = qd at *
            cases hok : r.ok
            · obtain ⟨s5, g5, k5, m5⟩ := sum_lz ⟨#[100, 101, 110, 121, 32]⟩ rb 5 300 (by decide) lrb (by omega)
              obtain ⟨s6, g6, k6, m6⟩ := sum_lz s5 ⟨#[10]⟩ 305 1 m5 (by decide) (by omega)
              obtain ⟨s7, g7, k7, m7⟩ := sum_lz sr s6 57000 306 lsr m6 (by omega)
              have HV : Hid (s7.data.toList = s4.data.toList ++ (d.rules.take (j + 1)).flatMap ruleT) := by
                show _ = _
                rw [k7.out, k6.out, k5.out, HRB.out, HJ.out, HFR.out, HRL.out, hok]
                simp [ruleW]
              rw [hok] at c0
              clear k5 k6 k7 HRL HFR HJ HRB hok
              go_wp2_with fail
              refine (MT.out _).mono ?_
              rintro e w7 ⟨rfl, hb7⟩
              have T8 := T5.keep hb7
              have X8 := X5.keep hb7
              clear hb7 T5 X5 e5 c0 c1 c2 c3 c4
              go_wp2_with fail
              go_roundw
              case rel => exact ⟨j + 1, s7, rfl, by go_num, by omega, T8, X8, HV⟩
              case measure => simp [intOf]; omega
            · obtain ⟨s5, g5, k5, m5⟩ := sum_lz ⟨#[112, 101, 114, 109, 105, 116, 32]⟩ rb 7 300 (by decide) lrb (by omega)
              obtain ⟨s6, g6, k6, m6⟩ := sum_lz s5 ⟨#[10]⟩ 307 1 m5 (by decide) (by omega)
              obtain ⟨s7, g7, k7, m7⟩ := sum_lz sr s6 57000 308 lsr m6 (by omega)
              have HV : Hid (s7.data.toList = s4.data.toList ++ (d.rules.take (j + 1)).flatMap ruleT) := by
                show _ = _
                rw [k7.out, k6.out, k5.out, HRB.out, HJ.out, HFR.out, HRL.out, hok]
                simp [ruleW]
              rw [hok] at c0
              clear k5 k6 k7 HRL HFR HJ HRB hok
              go_wp2_with fail
              refine (MT.out _).mono ?_
              rintro e w7 ⟨rfl, hb7⟩
              have T8 := T5.keep hb7
              have X8 := X5.keep hb7
              clear hb7 T5 X5 e5 c0 c1 c2 c3 c4
              go_wp2_with fail
              go_roundw
              case rel => exact ⟨j + 1, s7, rfl, by go_num, by omega, T8, X8, HV⟩
              case measure => simp [intOf]; omega
          · have HJ2 : Hid (sr.data.toList = s4.data.toList ++ d.rules.flatMap ruleT) := by
              show _ = _
              rw [HJ.out, show j = d.rules.length by omega, List.take_length]
            have lsr : sr.size ≤ 57000 := szl HJ.out (by
              have h1 := flat_pre ruleT 603 d.rules (fun r _ => ruleT_len r) j hj
              have h2 : 603 * j ≤ 603 * 8 := Nat.mul_le_mul_left _ (by omega)
              rw [List.length_append, ← Lib.size_eq]
              omega)
            clear HJ
            have e6 := X5.cell 6 _ rfl
            go_wp2_with fail
            clear e6 e5
            go_loopw [4, 11] (fun ot i wr' => ∃ (m : Nat) (st : ByteArray), ot = .string st ∧ i = .int .i64 (m : Int) ∧ m ≤ d.routes.length ∧ TS w wr' (.slice (some ⟨g, o, none⟩) ds.length cap) (.slice B ls.length cap') ∧ Blk wr' xd #[.string nm, .int .i64 5, .int .i64 ad, .int .u8 (pl : Int), .slice Ab nb cb, .slice Ar d.rules.length cr, .slice At d.routes.length ct] 41 ∧ Hid (st.data.toList = sr.data.toList ++ (d.routes.take m).flatMap routeT)) (fun _ i _ => d.routes.length - (intOf i).toNat)
            case atStart => exact ⟨0, sr, rfl, rfl, by omega, T5, X5, by show _ = _; simp⟩
            case round =>
              clear T5 X5
              obtain ⟨m, st, rfl, rfl, hm3, T5, X5, HJ⟩ := hrel
              have e6 := X5.cell 6 _ rfl
              by_cases hmr : m < d.routes.length
              · obtain ⟨r, hr⟩ : ∃ r, d.routes[m]? = some r := ⟨_, List.getElem?_eq_getElem hmr⟩
                obtain ⟨gr, or, rfl, hgr, c0, c1, c2⟩ := Routes.atN (Y.out _ T5.1).2.2 hr
                have hir := HRT.out r (List.mem_of_getElem? hr)
                obtain ⟨⟨v0, v1⟩, ⟨p0, p1⟩, u0, u1⟩ := isR_nums hir
                obtain ⟨i1, hi1, li1, J1⟩ := itoa_ex r.v v0 (by omega)
                obtain ⟨i2, hi2, li2, J2⟩ := itoa_ex r.b p0 (by omega)
                obtain ⟨i3, hi3, li3, J3⟩ := itoa_ex r.p u0 (by omega)
                have lst : st.size ≤ 58000 := szl HJ.out (by
                  have h1 := flat_pre routeT 22 d.routes (fun r hr => routeT_len (HRT.out r hr)) m hm3
                  have h2 : 22 * m ≤ 22 * 8 := Nat.mul_le_mul_left _ (by omega)
                  rw [List.length_append, ← Lib.size_eq]
                  omega)
                obtain ⟨t1', g1, n1, q1⟩ := sum_lz ⟨#[114, 111, 117, 116, 101, 32]⟩ i1 6 2 (by decide) li1 (by omega)
                obtain ⟨t2', g2, n2, q2⟩ := sum_lz t1' ⟨#[47]⟩ 8 1 q1 (by decide) (by omega)
                obtain ⟨t3', g3, n3, q3⟩ := sum_lz t2' i2 9 2 q2 li2 (by omega)
                obtain ⟨t4', g4, n4, q4⟩ := sum_lz t3' ⟨#[32]⟩ 11 1 q3 (by decide) (by omega)
                obtain ⟨t5', g5, n5, q5⟩ := sum_lz t4' i3 12 2 q4 li3 (by omega)
                obtain ⟨t6', g6, n6, q6⟩ := sum_lz t5' ⟨#[10]⟩ 14 1 q5 (by decide) (by omega)
                obtain ⟨t7', g7, n7, q7⟩ := sum_lz st t6' 58000 15 lst q6 (by omega)
                have HFR : Hid ((d.routes.take (m + 1)).flatMap routeT = (d.routes.take m).flatMap routeT ++ routeT r) := flat_take routeT hr
                have HV : Hid (t7'.data.toList = sr.data.toList ++ (d.routes.take (m + 1)).flatMap routeT) := by
                  show _ = _
                  rw [n7.out, n6.out, n5.out, n4.out, n3.out, n2.out, n1.out, hi1.out, hi2.out, hi3.out, HJ.out, HFR.out]
                  unfold routeT
                  rw [line3]
                  simp [routeW]
                clear hr hir hi1 hi2 hi3 v0 v1 p0 p1 u0 u1 n1 n2 n3 n4 n5 n6 n7 HJ HFR
                have j1 : (0 : Int) ≤ (m : Int) := by omega
                have j2 : (m : Int) < (d.routes.length : Int) := by omega
                obtain ⟨rv, hrv⟩ : ∃ rv, rv = r.v := ⟨_, rfl⟩
                obtain ⟨rb, hrb⟩ : ∃ rb, rb = r.b := ⟨_, rfl⟩
                obtain ⟨rp, hrp⟩ : ∃ rp, rp = r.p := ⟨_, rfl⟩
                rw [← hrv] at J1 c0
                rw [← hrb] at J2 c1
                rw [← hrp] at J3 c2
                clear hrv hrb hrp
                have R6 := blk_new wr #[.int .i64 rv, .int .i64 rb, .int .i64 rp] 60
                have T6 := T5.alloc (.cells #[.int .i64 rv, .int .i64 rb, .int .i64 rp] 60)
                have X6 := X5.alloc (.cells #[.int .i64 rv, .int .i64 rb, .int .i64 rp] 60)
                have m0 := R6.cell 0 _ rfl
                have m1 := R6.cell 1 _ rfl
                have m2 := R6.cell 2 _ rfl
                clear T5 X5
                go_wp2_with fail
                go_quiet ((first | (go_at_call_of 15 (Value.int .i64 rv); exact Calls.quiet_of_same (J1.out _)) | (go_at_call_of 15 (Value.int .i64 rb); exact Calls.quiet_of_same (J2.out _)) | (go_at_call_of 15 (Value.int .i64 rp); exact Calls.quiet_of_same (J3.out _))))
                go_wp2_with fail
                go_roundw
                case rel => exact ⟨m + 1, t7', rfl, by go_num, by omega, T6.keep (belowNN (Below.refl _ _) _), X6.keep (belowNN (Below.refl _ _) _), HV⟩
                case measure => simp [intOf]; omega
              · have HV : Hid (st.data.toList = (ds.take (k + 1)).flatMap devT) := by
                  show _ = _
                  rw [HJ.out, show m = d.routes.length by omega, List.take_length, HJ2.out, HL1.out, HT.out, HDT.out]
                  simp only [List.append_assoc]
                go_wp2_with fail
                go_roundw
                case rel => first | exact ⟨k + 1, st, rfl, by go_num, by omega, T5, HV⟩ | ((repeat apply Exists.intro); exact ⟨⟨k + 1, st, rfl, by go_num, by omega, T5, HV⟩, rfl⟩)
                case measure => simp [intOf]; omega
    · have HS2 : Hid (s.data.toList = ds.flatMap devT) := by
        show _ = _
        rw [HS.out, show k = ds.length by omega, List.take_length]
      have hsz : s.size ≤ 51010 := szl HS.out (by have := HPRE.out k hk; omega)
      clear HS
      go_wp2_with fail
      go_loopw [4, 13] (fun ot i wr' => ∃ (j : Nat) (sl : ByteArray), ot = .string sl ∧ i = .int .i64 (j : Int) ∧ j ≤ ls.length ∧ TS w wr' (.slice A ds.length cap) (.slice B ls.length cap') ∧ Hid (sl.data.toList = s.data.toList ++ (ls.take j).flatMap (linkT ds))) (fun _ i _ => ls.length - (intOf i).toNat)
      case atStart => exact ⟨0, s, rfl, rfl, by omega, T1, by show _ = _; simp⟩
      case round =>
        clear T1 b0 b1
        obtain ⟨j, sl, rfl, rfl, hj, T4, HJ⟩ := hrel
        obtain ⟨_, b0, b1, _⟩ := id T4.2
        by_cases hjr : j < ls.length
        · obtain ⟨l, hxl⟩ : ∃ l, ls[j]? = some l := ⟨_, List.getElem?_eq_getElem hjr⟩
          obtain ⟨gl, ol, rfl, hgl, c0, c1, c2, c3⟩ := (hL.out.below T4.1).at hxl
          obtain ⟨hp1, hp2⟩ := hP.out l (List.mem_of_getElem? hxl)
          obtain ⟨ia, ea, hia, pa0, pa1⟩ := isPl_lt hp1
          obtain ⟨ib, eb, hib, pb0, pb1⟩ := isPl_lt hp2
          obtain ⟨da, hda⟩ : ∃ da, ds[ia]? = some da := ⟨_, List.getElem?_eq_getElem hia⟩
          obtain ⟨db, hdb⟩ : ∃ db, ds[ib]? = some db := ⟨_, List.getElem?_eq_getElem hib⟩
          have na8 := (hR.out da (List.mem_of_getElem? hda)).name
          have nb8 := (hR.out db (List.mem_of_getElem? hdb)).name
          obtain ⟨x1, hx1, lx1, I1⟩ := itoa_ex l.p pa0 (by omega)
          obtain ⟨x2, hx2, lx2, I2⟩ := itoa_ex l.q pb0 (by omega)
          have lsl : sl.size ≤ 52000 := szl HJ.out (by
            have h1 := flat_pre (linkT ds) 46 ls (fun l hl => linkT_len hR.out (hP.out l hl).1 (hP.out l hl).2) j hj
            have h2 : 46 * j ≤ 46 * 15 := Nat.mul_le_mul_left _ (by omega)
            rw [List.length_append, ← Lib.size_eq]
            omega)
          have HN1 : Hid (nameAt ds l.a = da.name) := by show _ = _; rw [ea]; exact nameAt_eq hda
          have HN2 : Hid (nameAt ds l.b = db.name) := by show _ = _; rw [eb]; exact nameAt_eq hdb
          have HLN : Hid (linkT ds l = linkW ++ ([32] ++ (da.name.data.toList ++ ([32] ++ (dcB l.p ++ ([32] ++ (db.name.data.toList ++ ([32] ++ (dcB l.q ++ [10]))))))))) := by
            show _ = _
            unfold linkT
            rw [HN1.out, HN2.out, line5]
          have HFR : Hid ((ls.take (j + 1)).flatMap (linkT ds) = (ls.take j).flatMap (linkT ds) ++ linkT ds l) := flat_take (linkT ds) hxl
          have NA : Hid (∀ W, Below w.heap.size w W → ∃ gd od, A = some ⟨gd, od, none⟩ ∧ gd < w.heap.size ∧ W.cell? ⟨gd, od + ia * 7, none⟩ = some (.string da.name) ∧ W.cell? ⟨gd, od + ib * 7, none⟩ = some (.string db.name)) := fun W h => by
            obtain ⟨g1, o1, _, _, _, e1, hg1, _, _, _, n1, _⟩ := (hD.out.below h).at hda
            obtain ⟨g2, o2, _, _, _, e2, _, _, _, _, n2, _⟩ := (hD.out.below h).at hdb
            rw [e1] at e2
            cases e2
            exact ⟨g1, o1, e1, hg1, n1, n2⟩
          have j1 : (0 : Int) ≤ (j : Int) := by omega
          have j2 : (j : Int) < (ls.length : Int) := by omega
          have a1 : (0 : Int) ≤ (ia : Int) := by omega
          have a2 : (ia : Int) < (ds.length : Int) := by omega
          have d1 : (0 : Int) ≤ (ib : Int) := by omega
          have d2 : (ib : Int) < (ds.length : Int) := by omega
          rw [ea] at c0
          rw [eb] at c2
          clear ea eb hxl hp1 hp2 hda hdb HN1 HN2
          generalize da.name = na at *
          generalize db.name = nb at *
          obtain ⟨t1', g1, n1, q1⟩ := sum_lz ⟨#[108, 105, 110, 107, 32]⟩ na 5 8 (by decide) na8 (by omega)
          obtain ⟨t2', g2, n2, q2⟩ := sum_lz t1' ⟨#[32]⟩ 13 1 q1 (by decide) (by omega)
          obtain ⟨t3', g3, n3, q3⟩ := sum_lz t2' x1 14 2 q2 lx1 (by omega)
          obtain ⟨t4', g4, n4, q4⟩ := sum_lz t3' ⟨#[32]⟩ 16 1 q3 (by decide) (by omega)
          obtain ⟨t5', g5, n5, q5⟩ := sum_lz t4' nb 17 8 q4 nb8 (by omega)
          obtain ⟨t6', g6, n6, q6⟩ := sum_lz t5' ⟨#[32]⟩ 25 1 q5 (by decide) (by omega)
          obtain ⟨t7', g7, n7, q7⟩ := sum_lz t6' x2 26 2 q6 lx2 (by omega)
          obtain ⟨t8', g8, n8, q8⟩ := sum_lz t7' ⟨#[10]⟩ 28 1 q7 (by decide) (by omega)
          obtain ⟨t9', g9, n9, q9⟩ := sum_lz sl t8' 52000 29 lsl q8 (by omega)
          have HV : Hid (t9'.data.toList = s.data.toList ++ (ls.take (j + 1)).flatMap (linkT ds)) := by
            show _ = _
            rw [n9.out, n8.out, n7.out, n6.out, n5.out, n4.out, n3.out, n2.out, n1.out, hx1.out, hx2.out, HJ.out, HFR.out, HLN.out]
            simp [linkW]
          clear n1 n2 n3 n4 n5 n6 n7 n8 n9 HJ HFR HLN hx1 hx2
          obtain ⟨lp, hlp⟩ : ∃ lp, lp = l.p := ⟨_, rfl⟩
          obtain ⟨lq, hlq⟩ : ∃ lq, lq = l.q := ⟨_, rfl⟩
          rw [← hlp] at I1 c1
          rw [← hlq] at I2 c3
          clear hlp hlq
          have R5 := blk_new wr #[.int .i64 (ia : Int), .int .i64 lp, .int .i64 (ib : Int), .int .i64 lq] 46
          have T5 := T4.alloc (.cells #[.int .i64 (ia : Int), .int .i64 lp, .int .i64 (ib : Int), .int .i64 lq] 46)
          have m0 := R5.cell 0 _ rfl
          have m1 := R5.cell 1 _ rfl
          have m2 := R5.cell 2 _ rfl
          have m3 := R5.cell 3 _ rfl
          obtain ⟨gd, od, rfl, hgd, o1, o2⟩ := NA.out _ T5.1
          obtain ⟨_, e0, e1, _⟩ := id T5.2
          go_wp2_with fail
          go_quiet ((first | (go_at_call_of 15 (Value.int .i64 lp); exact Calls.quiet_of_same (I1.out _)) | (go_at_call_of 15 (Value.int .i64 lq); exact Calls.quiet_of_same (I2.out _))))
          go_wp2_with fail
          go_roundw
          case rel => exact ⟨j + 1, t9', rfl, by go_num, by omega, T5.keep (belowNN (Below.refl _ _) _), HV⟩
          case measure => simp [intOf]; omega
        · have HV : Hid (sl.data.toList = netT ds ls) := by
            show _ = _
            rw [HJ.out, show j = ls.length by omega, List.take_length, HS2.out]
            rfl
          go_wp2_with fail
          go_ret
          exact ⟨sl, rfl, HV, T4.1⟩
end Go.Proofs.YtkckgoeemfjkkaaDoor
