/-
  Package net: Print.
-/
import Derived.Test.YtkckgoeemfjkkaaDoorPW4
import Derived.Test.YtkckgoeemfjkkaaDoorNK
import Derived.Test.YtkckgoeemfjkkaaDoorM6
namespace Go.Proofs.YtkckgoeemfjkkaaDoor
open Go.RowKit

theorem Rules.atN {base : Nat} {w : World} {A : Option Addr} {n cap : Nat} {rs : List NRule} (h : SlAt base w 5 IsRule (.slice A n cap) rs) {k : Nat} {r : NRule} (hk : rs[k]? = some r) :
    ∃ b o, A = some ⟨b, o, none⟩ ∧ b < base ∧ w.cell? ⟨b, o + k * 5, none⟩ = some (.bool r.ok) ∧ w.cell? ⟨b, o + k * 5 + 1, none⟩ = some (.int .u16 (r.a : Int)) ∧ w.cell? ⟨b, o + k * 5 + 2, none⟩ = some (.int .u16 (r.b : Int)) ∧ w.cell? ⟨b, o + k * 5 + 3, none⟩ = some (.int .u8 (r.c : Int)) ∧ w.cell? ⟨b, o + k * 5 + 4, none⟩ = some (.int .u8 (r.d : Int)) := by
  obtain ⟨A', cap', e, _, _, _, h3⟩ := h
  cases e
  obtain ⟨b, o, ea, hl, hr⟩ := h3 (fun e => by subst e; simp at hk)
  obtain ⟨cs, _, rfl, hc⟩ := hr k r hk
  exact ⟨b, o, ea, hl, hc 0 _ rfl, hc 1 _ rfl, hc 2 _ rfl, hc 3 _ rfl, hc 4 _ rfl⟩
theorem Routes.atN {base : Nat} {w : World} {A : Option Addr} {n cap : Nat} {rs : List NRoute} (h : SlAt base w 3 IsRoute (.slice A n cap) rs) {k : Nat} {r : NRoute} (hk : rs[k]? = some r) :
    ∃ b o, A = some ⟨b, o, none⟩ ∧ b < base ∧ w.cell? ⟨b, o + k * 3, none⟩ = some (.int .i64 r.v) ∧ w.cell? ⟨b, o + k * 3 + 1, none⟩ = some (.int .i64 r.b) ∧ w.cell? ⟨b, o + k * 3 + 2, none⟩ = some (.int .i64 r.p) := by
  obtain ⟨A', cap', e, _, _, _, h3⟩ := h
  cases e
  obtain ⟨b, o, ea, hl, hr⟩ := h3 (fun e => by subst e; simp at hk)
  obtain ⟨cs, _, rfl, hc⟩ := hr k r hk
  exact ⟨b, o, ea, hl, hc 0 _ rfl, hc 1 _ rfl, hc 2 _ rfl⟩
theorem words2 (w : World) (a b : ByteArray) : WordsAt (w.alloc (.cells #[.string a, .string b] 9)) (.slice (some ⟨w.heap.size, 0, none⟩) 2 2) ([a, b].map (·.data.toList)) := words_new w [a, b]
theorem words3 (w : World) (a b c : ByteArray) : WordsAt (w.alloc (.cells #[.string a, .string b, .string c] 9)) (.slice (some ⟨w.heap.size, 0, none⟩) 3 3) ([a, b, c].map (·.data.toList)) := words_new w [a, b, c]
theorem words5 (w : World) (a b c d e : ByteArray) : WordsAt (w.alloc (.cells #[.string a, .string b, .string c, .string d, .string e] 9)) (.slice (some ⟨w.heap.size, 0, none⟩) 5 5) ([a, b, c, d, e].map (·.data.toList)) := words_new w [a, b, c, d, e]
/-- The words of a rule's line. -/
theorem ruleT_words (r : NRule) (a b : ByteArray) (h1 : a = ⟨(ruleW r.ok).toArray⟩) (h2 : b = ⟨(Mt.matT r.a r.b r.c r.d).toArray⟩) : lineT ([a, b].map (·.data.toList)) = ruleT r := by
  subst h1 h2
  simp [ruleT]
theorem routeT_words (r : NRoute) (s1 s2 s3 x1 x2 : ByteArray) (h1 : x1.data.toList = dcB r.v) (h2 : x2.data.toList = dcB r.b) (h3 : s3.data.toList = dcB r.p) (e1 : s1 = x1 ++ ⟨#[47]⟩) (e2 : s2 = s1 ++ x2) : lineT ([⟨#[114, 111, 117, 116, 101]⟩, s2, s3].map (·.data.toList)) = routeT r := by
  subst e1 e2
  simp only [List.map_cons, List.map_nil, app_toList, h1, h2, h3]
  unfold routeT routeW
  simp
theorem linkT_words (ds : List Dv) (l : Lk) (na nb s1 s2 : ByteArray) (h1 : nameAt ds l.a = na) (h2 : s1.data.toList = dcB l.p) (h3 : nameAt ds l.b = nb) (h4 : s2.data.toList = dcB l.q) : lineT ([⟨#[108, 105, 110, 107]⟩, na, s1, nb, s2].map (·.data.toList)) = linkT ds l := by
  unfold linkT linkW
  rw [h1, h3, ← h2, ← h4]
  simp
set_option maxHeartbeats 16000000 in
set_option maxRecDepth 100000 in
theorem print_row (A B : Option Addr) (cap cap' : Nat) (ds : List Dv) (ls : List Lk) (w : World) (hD : Hid (Devs w.heap.size w (.slice A ds.length cap) ds)) (hL : Hid (Links w.heap.size w (.slice B ls.length cap') ls)) (hDL : Hid (DLn 0 w)) (h10 : ds.length ≤ 10) (h15 : ls.length ≤ 15) (hR : Hid (∀ d ∈ ds, RightD d)) (hP : Hid (∀ l ∈ ls, isPl ds l.a l.p = true ∧ isPl ds l.b l.q = true))
    (CK : Hid (∀ W, Below w.heap.size w W → Calls Tryd.prog 9 #[.agg #[.slice A ds.length cap, .slice B ls.length cap']] W fun e w' => e = .returned (.int .i64 0) ∧ Below W.heap.size W w')) :
    Calls Tryd.prog 6 #[.agg #[.slice A ds.length cap, .slice B ls.length cap']] w fun e w' => e = .returned (.tuple #[.string ⟨(netT ds ls).toArray⟩, .int .i64 0]) ∧ Below w.heap.size w w' := by
  obtain ⟨_, hc, hm⟩ := hD.out.len
  obtain ⟨_, hc', hm'⟩ := hL.out.len
  unfold maxLen at hm hm'
  have D0 := Below.alN (Below.refl w.heap.size w) (.cells #[.slice A ds.length cap, .slice B ls.length cap'] 25)
  have B0 := box2_new w (.slice A ds.length cap) (.slice B ls.length cap') 25
  obtain ⟨_, q0, q1, _⟩ := id B0
  go_enter Tryd.func6, Tryd.ntmps6
  go_wp2_with fail
  refine (CK.out _ D0).mono ?_
  rintro e w1 ⟨rfl, hb1⟩
  have P1 : PS w (w1.alloc (.cells #[.pointer none, .slice none 0 0] 64)) w1.heap.size (.slice A ds.length cap) (.slice B ls.length cap') [] :=
    ⟨Below.alN (chnN hb1 D0) _, (B0.below hb1 B0.1).alloc _, (B0.below hb1 B0.1).1, by simp, Lib.IsBuilderF.of (Lib.fresh_isBuilder _ _ w1)⟩
  clear hb1 D0 B0 q0 q1 CK
  obtain ⟨_, q0, q1, _⟩ := id P1.2.1
  go_wp2_with fail
  generalize w1.heap.size = b at *
  have PL : Hid (∀ (acc : List UInt8) (v : Value) (ws : List (List UInt8)) (W : World), Bld b b acc W → WordsAt W v ws → b ≤ W.heap.size → acc.length + (lineT ws).length ≤ 1000000 → ws.length ≤ 10 → Calls Tryd.prog 19 #[.pointer (some ⟨b, 0, none⟩), v] W fun e w' => ∃ x, e = .returned x ∧ Bld b b (acc ++ lineT ws) w' ∧ Below b W w' ∧ Lib.OthersKept 5 (some b) W w') := fun acc v ws W h1 h2 h3 h4 h5 => printLine_any b b acc v ws W h1 h2 h3 h4 h5
  go_loopw [22] (fun i wr => ∃ (k : Nat) (acc : List UInt8), i = .int .i64 (k : Int) ∧ k ≤ ds.length ∧ PS w wr b (.slice A ds.length cap) (.slice B ls.length cap') acc ∧ Hid (acc = (ds.take k).flatMap devT) ∧ acc.length ≤ 5101 * k) (fun i _ => ds.length - (intOf i).toNat)
  case atStart => exact ⟨0, [], rfl, by omega, P1, rfl, by simp⟩
  case round =>
    clear P1 q0 q1
    obtain ⟨k, acc, rfl, hk, P1, HA, hal⟩ := hrel
    by_cases hlt : k < ds.length
    · obtain ⟨d, hxk⟩ : ∃ d, ds[k]? = some d := ⟨_, List.getElem?_eq_getElem hlt⟩
      obtain ⟨g, o, vb, vr, vt, rfl, hg, z1, z2, z3, c0, c1, c2, c3, c4, c5, c6⟩ := (hD.out.below P1.1).at hxk
      have RD := hR.out d (List.mem_of_getElem? hxk)
      have y1 : ∀ W, Below w.heap.size w W → SlAt W.heap.size W 1 IsI vb d.backs ∧ SlAt w.heap.size W 5 IsRule vr d.rules ∧ SlAt w.heap.size W 3 IsRoute vt d.routes := fun W h => by
        obtain ⟨b', o', vb', vr', vt', e1, _, s1, s2, s3, t0, t1, t2, t3, t4, t5, t6⟩ := (hD.out.below h).at hxk
        cases e1
        have g4 := (P1.1.cell (p := ⟨g, o + k * 7 + 4, none⟩) hg).symm.trans c4
        have g5 := (P1.1.cell (p := ⟨g, o + k * 7 + 5, none⟩) hg).symm.trans c5
        have g6 := (P1.1.cell (p := ⟨g, o + k * 7 + 6, none⟩) hg).symm.trans c6
        have f4 := (h.cell (p := ⟨g, o + k * 7 + 4, none⟩) hg).symm.trans t4
        have f5 := (h.cell (p := ⟨g, o + k * 7 + 5, none⟩) hg).symm.trans t5
        have f6 := (h.cell (p := ⟨g, o + k * 7 + 6, none⟩) hg).symm.trans t6
        obtain rfl := Option.some.inj (g4.symm.trans f4)
        obtain rfl := Option.some.inj (g5.symm.trans f5)
        obtain rfl := Option.some.inj (g6.symm.trans f6)
        exact ⟨SlAt.mono s1 h.size (fun _ _ _ h => h), s2, s3⟩
      obtain ⟨Ab, cb, rfl, _, _, _, _⟩ := z1
      obtain ⟨Ar, cr, rfl, _, r1, r2, _⟩ := z2
      obtain ⟨At, ct, rfl, _, t1, t2, _⟩ := z3
      unfold maxLen at r2 t2
      have Y : Hid (∀ W, Below w.heap.size w W → SlAt W.heap.size W 1 IsI (.slice Ab d.backs.length cb) d.backs ∧ SlAt w.heap.size W 5 IsRule (.slice Ar d.rules.length cr) d.rules ∧ SlAt w.heap.size W 3 IsRoute (.slice At d.routes.length ct) d.routes) := y1
      have DW : Hid (∀ W, Below w.heap.size w W → Calls Tryd.prog 20 #[devA d.name d.kind d.addr d.pool (.slice Ab d.backs.length cb) (.slice Ar d.rules.length cr) (.slice At d.routes.length ct)] W fun e w' => ∃ v, e = .returned v ∧ WordsAt w' v (devWs d) ∧ Below W.heap.size W w') := fun W h => deviceWords_any d RD _ _ _ W (hDL.out.below h hDL.out.lt) (Y.out W h).1
      have HT : Hid ((ds.take (k + 1)).flatMap devT = (ds.take k).flatMap devT ++ devT d) := flat_take devT hxk
      have HDT : Hid (devT d = lineT (devWs d) ++ (d.rules.flatMap ruleT ++ d.routes.flatMap routeT)) := rfl
      have hdl := devT_len RD
      have hwl := devWs_len RD
      have hr8 := RD.rules
      have ht8 := RD.routes
      have hdw : (devWs d).length ≤ 10 := by
        unfold devWs addrW tailW
        rw [List.length_append, List.length_append]
        repeat' split
        all_goals simp
      have HRT : Hid (∀ r ∈ d.routes, isR (rtOf r) = true) := RD.route
      have k1 : (0 : Int) ≤ (k : Int) := by omega
      have k2 : (k : Int) < (ds.length : Int) := by omega
      clear hxk y1 RD
      obtain ⟨nm, hnm⟩ : ∃ nm, nm = d.name := ⟨_, rfl⟩
      obtain ⟨kd, hkd⟩ : ∃ kd, kd = d.kind := ⟨_, rfl⟩
      obtain ⟨ad, had⟩ : ∃ ad, ad = d.addr := ⟨_, rfl⟩
      obtain ⟨pl, hpl⟩ : ∃ pl, pl = d.pool := ⟨_, rfl⟩
      obtain ⟨nb, hnb⟩ : ∃ nb, nb = d.backs.length := ⟨_, rfl⟩
      rw [← hnm, ← hkd, ← had, ← hpl, ← hnb] at DW
      rw [← hnm] at c0
      rw [← hkd] at c1
      rw [← had] at c2
      rw [← hpl] at c3
      rw [← hnb] at c4
      clear hnm hkd had hpl hnb
      generalize devWs d = dws at *
      have X2 := blk_new wr #[.string nm, .int .i64 kd, .int .i64 ad, .int .u8 (pl : Int), .slice Ab nb cb, .slice Ar d.rules.length cr, .slice At d.routes.length ct] 41
      have P2 := P1.alloc (.cells #[.string nm, .int .i64 kd, .int .i64 ad, .int .u8 (pl : Int), .slice Ab nb cb, .slice Ar d.rules.length cr, .slice At d.routes.length ct] 41)
      have xb : wr.heap.size ≠ b := by have := P1.2.2.2.1; omega
      go_wp2_with fail
      refine (DW.out _ P2.1).mono ?_
      rintro e w3 ⟨v3, rfl, W3, hb3⟩
      have P3 := P2.keep hb3
      have X3 := X2.keep hb3
      clear hb3 P2 X2 DW c0 c1 c2 c3 c4 c5 c6
      generalize wr.heap.size = xd at *
      go_wp2_with fail
      refine (PL.out acc v3 dws w3 P3.2.2.2.2 W3 (Nat.le_of_lt P3.2.2.2.1) (by omega) hdw).mono ?_
      rintro e w4 ⟨x4, rfl, T4, hb4, K4⟩
      have P4 := P3.line T4 hb4
      have X4 := X3.line K4 xb (by decide)
      clear P3 X3 T4 hb4 K4 W3
      have rc := X4.cell 5 _ rfl
      go_wp2_with fail
      clear rc
      obtain ⟨acc1, hacc1⟩ : ∃ acc1, acc1 = acc ++ lineT dws := ⟨_, rfl⟩
      rw [← hacc1] at P4
      have hal1 : acc1.length ≤ 5101 * k + 101 := by rw [hacc1, List.length_append]; omega
      have HA1 : Hid (acc1 = acc ++ lineT dws) := hacc1
      clear hacc1
      go_loopw [32] (fun i wr => ∃ (j : Nat) (ac : List UInt8), i = .int .i64 (j : Int) ∧ j ≤ d.rules.length ∧ PS w wr b (.slice (some ⟨g, o, none⟩) ds.length cap) (.slice B ls.length cap') ac ∧ Blk wr xd #[.string nm, .int .i64 kd, .int .i64 ad, .int .u8 (pl : Int), .slice Ab nb cb, .slice Ar d.rules.length cr, .slice At d.routes.length ct] 41 ∧ Hid (ac = acc1 ++ (d.rules.take j).flatMap ruleT) ∧ ac.length ≤ acc1.length + 603 * j) (fun i _ => d.rules.length - (intOf i).toNat)
      case atStart => exact ⟨0, acc1, rfl, by omega, P4, X4, by show _ = _; simp, by omega⟩
      case round =>
        clear P4 X4
        obtain ⟨j, ac, rfl, hj, P4, X4, HJ, hjl⟩ := hrel
        by_cases hjr : j < d.rules.length
        · obtain ⟨r, hr⟩ : ∃ r, d.rules[j]? = some r := ⟨_, List.getElem?_eq_getElem hjr⟩
          obtain ⟨gr, or, rfl, hgr, c0, c1, c2, c3, c4⟩ := Rules.atN (Y.out _ P4.1).2.1 hr
          have RW : Hid (∀ w, Calls Tryd.prog 21 #[.agg #[.bool r.ok, .int .u16 (r.a : Int), .int .u16 (r.b : Int), .int .u8 (r.c : Int), .int .u8 (r.d : Int)]] w fun e w' => e = .returned (.string ⟨(ruleW r.ok).toArray⟩) ∧ Below w.heap.size w w') := fun w => ruleWord_any _ _ _ _ _ w
          have MP : Hid (∀ w, Calls Tryd.prog 22 #[.agg #[.int .u16 (r.a : Int), .int .u16 (r.b : Int), .int .u8 (r.c : Int), .int .u8 (r.d : Int)]] w fun e w' => e = .returned (.string ⟨(Mt.matT r.a r.b r.c r.d).toArray⟩) ∧ Below w.heap.size w w') := fun w => print_match r.a r.b r.c r.d w r.ha r.hb r.hc r.hd
          have HFR : Hid ((d.rules.take (j + 1)).flatMap ruleT = (d.rules.take j).flatMap ruleT ++ ruleT r) := flat_take ruleT hr
          have HRW : Hid (∀ a b : ByteArray, a = ⟨(ruleW r.ok).toArray⟩ → b = ⟨(Mt.matT r.a r.b r.c r.d).toArray⟩ → lineT ([a, b].map (·.data.toList)) = ruleT r) := ruleT_words r
          have hrl := ruleT_len r
          obtain ⟨ra, hra⟩ : ∃ ra : ByteArray, ra = ⟨(ruleW r.ok).toArray⟩ := ⟨_, rfl⟩
          obtain ⟨rb, hrb⟩ : ∃ rb : ByteArray, rb = ⟨(Mt.matT r.a r.b r.c r.d).toArray⟩ := ⟨_, rfl⟩
          rw [← hra] at RW
          rw [← hrb] at MP
          have HLN : Hid (lineT ([ra, rb].map (·.data.toList)) = ruleT r) := HRW.out ra rb hra hrb
          clear hra hrb HRW hr
          have j1 : (0 : Int) ≤ (j : Int) := by omega
          have j2 : (j : Int) < (d.rules.length : Int) := by omega
          generalize r.ok = ok at *
          generalize r.a = qa at *
          generalize r.b = qb at *
          generalize r.c = qc at *
          generalize r.d = qd at *
          have R5 := blk_new wr #[.bool ok, .int .u16 (qa : Int), .int .u16 (qb : Int), .int .u8 (qc : Int), .int .u8 (qd : Int)] 57
          have P5 := P4.alloc (.cells #[.bool ok, .int .u16 (qa : Int), .int .u16 (qb : Int), .int .u8 (qc : Int), .int .u8 (qd : Int)] 57)
          have X5 := X4.alloc (.cells #[.bool ok, .int .u16 (qa : Int), .int .u16 (qb : Int), .int .u8 (qc : Int), .int .u8 (qd : Int)] 57)
          have m0 := R5.cell 0 _ rfl
          have m1 := R5.cell 1 _ rfl
          have m2 := R5.cell 2 _ rfl
          have m3 := R5.cell 3 _ rfl
          have m4 := R5.cell 4 _ rfl
          have xr : wr.heap.size ≠ b := by have := P4.2.2.2.1; omega
          clear P4 X4
          go_wp2_with fail
          go_region_held3 (fun w' => w'.cell? ⟨wr.heap.size, 0, none⟩ = some (.bool ok) ∧ w'.cell? ⟨wr.heap.size, 1, none⟩ = some (.int .u16 (qa : Int)) ∧ w'.cell? ⟨wr.heap.size, 2, none⟩ = some (.int .u16 (qb : Int)) ∧ w'.cell? ⟨wr.heap.size, 3, none⟩ = some (.int .u8 (qc : Int)) ∧ w'.cell? ⟨wr.heap.size, 4, none⟩ = some (.int .u8 (qd : Int))) (go_keep) (first | (go_at_call 21; refine (RW.out _).mono ?_; rintro e w5 ⟨rfl, hb5⟩; have P6 := P5.drew.keep hb5; have X6 := X5.drew.keep hb5; have R6 := R5.drew.keep hb5; have n0 := R6.cell 0 _ rfl; have n1 := R6.cell 1 _ rfl; have n2 := R6.cell 2 _ rfl; have n3 := R6.cell 3 _ rfl; have n4 := R6.cell 4 _ rfl) | (go_at_call 22; refine (MP.out _).mono ?_; rintro e w6 ⟨rfl, hb6⟩; have P7 := P6.keep hb6; have X7 := X6.keep hb6; have R7 := R6.keep hb6; have o0 := R7.cell 0 _ rfl; have o1 := R7.cell 1 _ rfl; have o2 := R7.cell 2 _ rfl; have o3 := R7.cell 3 _ rfl; have o4 := R7.cell 4 _ rfl; have P8 := P7.alloc (.cells #[.string ra, .string rb] 9); have X8 := X7.alloc (.cells #[.string ra, .string rb] 9); have R8 := R7.alloc (.cells #[.string ra, .string rb] 9); have s0 := R8.cell 0 _ rfl; have s1 := R8.cell 1 _ rfl; have s2 := R8.cell 2 _ rfl; have s3 := R8.cell 3 _ rfl; have s4 := R8.cell 4 _ rfl) | (go_at_call 19; refine (PL.out ac _ ([ra, rb].map (·.data.toList)) _ P8.2.2.2.2 (words2 _ ra rb) (Nat.le_of_lt P8.2.2.2.1) (by rw [HLN.out]; omega) (by simp)).mono ?_; rintro e w7 ⟨x7, rfl, T9, hb9, K9⟩; have P9 := P8.line T9 hb9; have X9 := X8.line K9 xb (by decide); have R9 := R8.line K9 xr (by decide); have u0 := R9.cell 0 _ rfl; have u1 := R9.cell 1 _ rfl; have u2 := R9.cell 2 _ rfl; have u3 := R9.cell 3 _ rfl; have u4 := R9.cell 4 _ rfl))
          have HV : Hid (ac ++ lineT ([ra, rb].map (·.data.toList)) = acc1 ++ (d.rules.take (j + 1)).flatMap ruleT) := by
            show _ = _
            rw [HLN.out, HFR.out, HJ.out, List.append_assoc]
          have hvl : (ac ++ lineT ([ra, rb].map (·.data.toList))).length ≤ acc1.length + 603 * (j + 1) := by
            rw [List.length_append, HLN.out]
            omega
          go_wp2_with fail
          go_roundw
          case rel => exact ⟨j + 1, _, by go_num, by omega, P9, X9, HV, hvl⟩
          case measure => simp [intOf]; omega
        · have HJ2 : Hid (ac = acc1 ++ d.rules.flatMap ruleT) := by
            show _ = _
            rw [HJ.out, show j = d.rules.length by omega, List.take_length]
          have hj2 : ac.length ≤ 5101 * k + 101 + 603 * 8 := by
            have : 603 * j ≤ 603 * 8 := Nat.mul_le_mul_left _ (by omega)
            omega
          clear HJ hjl
          have rc := X4.cell 6 _ rfl
          go_wp2_with fail
          clear rc
          go_loopw [47] (fun i wr => ∃ (j : Nat) (at' : List UInt8), i = .int .i64 (j : Int) ∧ j ≤ d.routes.length ∧ PS w wr b (.slice (some ⟨g, o, none⟩) ds.length cap) (.slice B ls.length cap') at' ∧ Hid (at' = ac ++ (d.routes.take j).flatMap routeT) ∧ at'.length ≤ ac.length + 22 * j) (fun i _ => d.routes.length - (intOf i).toNat)
          case atStart => exact ⟨0, ac, rfl, by omega, P4, by show _ = _; simp, by omega⟩
          case round =>
            clear P4 X4
            obtain ⟨m, at', rfl, hm3, P4, HJ, hjl⟩ := hrel
            by_cases hmr : m < d.routes.length
            · obtain ⟨r, hr⟩ : ∃ r, d.routes[m]? = some r := ⟨_, List.getElem?_eq_getElem hmr⟩
              obtain ⟨gr, or, rfl, hgr, c0, c1, c2⟩ := Routes.atN (Y.out _ P4.1).2.2 hr
              have hir := HRT.out r (List.mem_of_getElem? hr)
              obtain ⟨⟨v0, v1⟩, ⟨b0, b1⟩, p0, p1⟩ := isR_nums hir
              obtain ⟨x1, hx1, lx1, I1⟩ := itoa_ex r.v v0 (by omega)
              obtain ⟨x2, hx2, lx2, I2⟩ := itoa_ex r.b b0 (by omega)
              obtain ⟨x3, hx3, lx3, I3⟩ := itoa_ex r.p p0 (by omega)
              obtain ⟨s1, e1, hs1⟩ := sum_ex x1 ⟨#[47]⟩ (by show x1.size + 1 ≤ _; omega)
              obtain ⟨s2, e2, hs2⟩ := sum_ex s1 x2 (by rw [hs1.out, ByteArray.size_append]; show x1.size + 1 + x2.size ≤ _; omega)
              have HLN : Hid (lineT ([⟨#[114, 111, 117, 116, 101]⟩, s2, x3].map (·.data.toList)) = routeT r) := routeT_words r s1 s2 x3 x1 x2 hx1.out hx2.out hx3.out hs1.out hs2.out
              have HFR : Hid ((d.routes.take (m + 1)).flatMap routeT = (d.routes.take m).flatMap routeT ++ routeT r) := flat_take routeT hr
              have hrl := routeT_len hir
              clear hr hir hx1 hx2 hx3 hs1 hs2 v0 v1 b0 b1 p0 p1
              have j1 : (0 : Int) ≤ (m : Int) := by omega
              have j2 : (m : Int) < (d.routes.length : Int) := by omega
              obtain ⟨rv, hrv⟩ : ∃ rv, rv = r.v := ⟨_, rfl⟩
              obtain ⟨rb, hrb⟩ : ∃ rb, rb = r.b := ⟨_, rfl⟩
              obtain ⟨rp, hrp⟩ : ∃ rp, rp = r.p := ⟨_, rfl⟩
              rw [← hrv] at I1 c0
              rw [← hrb] at I2 c1
              rw [← hrp] at I3 c2
              clear hrv hrb hrp
              have R5 := blk_new wr #[.int .i64 rv, .int .i64 rb, .int .i64 rp] 60
              have P5 := P4.alloc (.cells #[.int .i64 rv, .int .i64 rb, .int .i64 rp] 60)
              have m0 := R5.cell 0 _ rfl
              have m1 := R5.cell 1 _ rfl
              have m2 := R5.cell 2 _ rfl
              have P8 := (P5.alloc (.cells #[.string ⟨#[114, 111, 117, 116, 101]⟩, .string s2, .string x3] 9)).drew
              have R8 := (R5.alloc (.cells #[.string ⟨#[114, 111, 117, 116, 101]⟩, .string s2, .string x3] 9)).drew
              have W8 : WordsAt ((wr.alloc (.cells #[.int .i64 rv, .int .i64 rb, .int .i64 rp] 60)).alloc (.cells #[.string ⟨#[114, 111, 117, 116, 101]⟩, .string s2, .string x3] 9)).drew (.slice (some ⟨wr.heap.size + 1, 0, none⟩) 3 3) ([⟨#[114, 111, 117, 116, 101]⟩, s2, x3].map (·.data.toList)) := by
                have := words3 (wr.alloc (.cells #[.int .i64 rv, .int .i64 rb, .int .i64 rp] 60)) ⟨#[114, 111, 117, 116, 101]⟩ s2 x3
                rw [World.size_alloc] at this
                exact this
              have o0 := R8.cell 0 _ rfl
              have o1 := R8.cell 1 _ rfl
              have o2 := R8.cell 2 _ rfl
              have xr : wr.heap.size ≠ b := by have := P4.2.2.2.1; omega
              clear P4
              go_wp2_with fail
              go_region_held3 (fun w' => w'.cell? ⟨wr.heap.size, 0, none⟩ = some (.int .i64 rv) ∧ w'.cell? ⟨wr.heap.size, 1, none⟩ = some (.int .i64 rb) ∧ w'.cell? ⟨wr.heap.size, 2, none⟩ = some (.int .i64 rp)) (go_keep) (first | (go_at_call 19; refine (PL.out at' _ ([⟨#[114, 111, 117, 116, 101]⟩, s2, x3].map (·.data.toList)) _ P8.2.2.2.2 W8 (Nat.le_of_lt P8.2.2.2.1) (by rw [HLN.out]; omega) (by simp)).mono ?_; rintro e w7 ⟨x7, rfl, T9, hb9, K9⟩; have P9 := P8.line T9 hb9; have R9 := R8.line K9 xr (by decide); have u0 := R9.cell 0 _ rfl; have u1 := R9.cell 1 _ rfl; have u2 := R9.cell 2 _ rfl) | (go_at_call_of 15 (Value.int .i64 rv); refine (I1.out _).mono ?_; rintro e w4 ⟨rfl, rfl⟩) | (go_at_call_of 15 (Value.int .i64 rb); refine (I2.out _).mono ?_; rintro e w4 ⟨rfl, rfl⟩) | (go_at_call_of 15 (Value.int .i64 rp); refine (I3.out _).mono ?_; rintro e w4 ⟨rfl, rfl⟩))
              have HV : Hid (at' ++ lineT ([⟨#[114, 111, 117, 116, 101]⟩, s2, x3].map (·.data.toList)) = ac ++ (d.routes.take (m + 1)).flatMap routeT) := by
                show _ = _
                rw [HLN.out, HFR.out, HJ.out, List.append_assoc]
              have hvl : (at' ++ lineT ([⟨#[114, 111, 117, 116, 101]⟩, s2, x3].map (·.data.toList))).length ≤ ac.length + 22 * (m + 1) := by
                rw [List.length_append, HLN.out]
                omega
              go_wp2_with fail
              go_roundw
              case rel => exact ⟨m + 1, _, by go_num, by omega, P9, HV, hvl⟩
              case measure => simp [intOf]; omega
            · have HV : Hid (at' = (ds.take (k + 1)).flatMap devT) := by
                show _ = _
                rw [HJ.out, show m = d.routes.length by omega, List.take_length, HT.out, HDT.out, HJ2.out, HA1.out, HA.out]
                simp only [List.append_assoc]
              have hvl : at'.length ≤ 5101 * (k + 1) := by
                have e : at' = acc ++ devT d := by
                  rw [HV.out, HT.out, HA.out]
                rw [e, List.length_append]
                omega
              go_wp2_with fail
              go_roundw
              case rel => first | exact ⟨k + 1, _, by go_num, by omega, P4, HV, hvl⟩ | ((repeat apply Exists.intro); exact ⟨⟨k + 1, _, by go_num, by omega, P4, HV, hvl⟩, rfl⟩)
              case measure => simp [intOf]; omega
    · have HA2 : Hid (acc = ds.flatMap devT) := by
        show _ = _
        rw [HA.out, show k = ds.length by omega, List.take_length]
      have hal2 : acc.length ≤ 51010 := by
        have : 5101 * k ≤ 5101 * 10 := Nat.mul_le_mul_left _ (by omega)
        omega
      clear HA hal
      obtain ⟨_, q0, q1, _⟩ := id P1.2.1
      go_wp2_with fail
      clear q0 q1
      go_loopw [69] (fun i wr => ∃ (j : Nat) (ac : List UInt8), i = .int .i64 (j : Int) ∧ j ≤ ls.length ∧ PS w wr b (.slice A ds.length cap) (.slice B ls.length cap') ac ∧ Hid (ac = acc ++ (ls.take j).flatMap (linkT ds)) ∧ ac.length ≤ acc.length + 46 * j) (fun i _ => ls.length - (intOf i).toNat)
      case atStart => exact ⟨0, acc, rfl, by omega, P1, by show _ = _; simp, by omega⟩
      case round =>
        clear P1
        obtain ⟨j, ac, rfl, hj, P4, HJ, hjl⟩ := hrel
        by_cases hjr : j < ls.length
        · obtain ⟨l, hxl⟩ : ∃ l, ls[j]? = some l := ⟨_, List.getElem?_eq_getElem hjr⟩
          obtain ⟨gl, ol, rfl, hgl, c0, c1, c2, c3⟩ := (hL.out.below P4.1).at hxl
          obtain ⟨hp1, hp2⟩ := hP.out l (List.mem_of_getElem? hxl)
          obtain ⟨ia, ea, hia, pa0, pa1⟩ := isPl_lt hp1
          obtain ⟨ib, eb, hib, pb0, pb1⟩ := isPl_lt hp2
          obtain ⟨da, hda⟩ : ∃ da, ds[ia]? = some da := ⟨_, List.getElem?_eq_getElem hia⟩
          obtain ⟨db, hdb⟩ : ∃ db, ds[ib]? = some db := ⟨_, List.getElem?_eq_getElem hib⟩
          obtain ⟨x1, hx1, lx1, I1⟩ := itoa_ex l.p pa0 (by omega)
          obtain ⟨x2, hx2, lx2, I2⟩ := itoa_ex l.q pb0 (by omega)
          have HLN : Hid (lineT ([⟨#[108, 105, 110, 107]⟩, da.name, x1, db.name, x2].map (·.data.toList)) = linkT ds l) := linkT_words ds l da.name db.name x1 x2 (by rw [ea]; exact nameAt_eq hda) hx1.out (by rw [eb]; exact nameAt_eq hdb) hx2.out
          have HFR : Hid ((ls.take (j + 1)).flatMap (linkT ds) = (ls.take j).flatMap (linkT ds) ++ linkT ds l) := flat_take (linkT ds) hxl
          have hrl := linkT_len hR.out hp1 hp2
          have NA : Hid (∀ W, Below w.heap.size w W → ∃ gd od, A = some ⟨gd, od, none⟩ ∧ gd < w.heap.size ∧ W.cell? ⟨gd, od + ia * 7, none⟩ = some (.string da.name) ∧ W.cell? ⟨gd, od + ib * 7, none⟩ = some (.string db.name)) := fun W h => by
            obtain ⟨g1, o1, _, _, _, e1, hg1, _, _, _, n1, _⟩ := (hD.out.below h).at hda
            obtain ⟨g2, o2, _, _, _, e2, _, _, _, _, n2, _⟩ := (hD.out.below h).at hdb
            rw [e1] at e2
            cases e2
            exact ⟨g1, o1, e1, hg1, n1, n2⟩
          have j1 : (0 : Int) ≤ (j : Int) := by omega
          have j2 : (j : Int) < (ls.length : Int) := by omega
          have a1 : (0 : Int) ≤ (ia : Int) := by omega
          have a2 : (ia : Int) < (ds.length : Int) := by omega
          have b1 : (0 : Int) ≤ (ib : Int) := by omega
          have b2 : (ib : Int) < (ds.length : Int) := by omega
          rw [ea] at c0
          rw [eb] at c2
          clear ea eb hx1 hx2 hxl hp1 hp2 hda hdb
          generalize da.name = na at *
          generalize db.name = nb at *
          obtain ⟨lp, hlp⟩ : ∃ lp, lp = l.p := ⟨_, rfl⟩
          obtain ⟨lq, hlq⟩ : ∃ lq, lq = l.q := ⟨_, rfl⟩
          rw [← hlp] at I1 c1
          rw [← hlq] at I2 c3
          clear hlp hlq
          have R5 := blk_new wr #[.int .i64 (ia : Int), .int .i64 lp, .int .i64 (ib : Int), .int .i64 lq] 46
          have P5 := P4.alloc (.cells #[.int .i64 (ia : Int), .int .i64 lp, .int .i64 (ib : Int), .int .i64 lq] 46)
          have m0 := R5.cell 0 _ rfl
          have m1 := R5.cell 1 _ rfl
          have m2 := R5.cell 2 _ rfl
          have m3 := R5.cell 3 _ rfl
          obtain ⟨gd, od, rfl, hgd, n1, n2⟩ := NA.out _ P5.1
          have P8 := (P5.alloc (.cells #[.string ⟨#[108, 105, 110, 107]⟩, .string na, .string x1, .string nb, .string x2] 9)).drew
          have R8 := (R5.alloc (.cells #[.string ⟨#[108, 105, 110, 107]⟩, .string na, .string x1, .string nb, .string x2] 9)).drew
          have W8 : WordsAt ((wr.alloc (.cells #[.int .i64 (ia : Int), .int .i64 lp, .int .i64 (ib : Int), .int .i64 lq] 46)).alloc (.cells #[.string ⟨#[108, 105, 110, 107]⟩, .string na, .string x1, .string nb, .string x2] 9)).drew (.slice (some ⟨wr.heap.size + 1, 0, none⟩) 5 5) ([⟨#[108, 105, 110, 107]⟩, na, x1, nb, x2].map (·.data.toList)) := by
            have := words5 (wr.alloc (.cells #[.int .i64 (ia : Int), .int .i64 lp, .int .i64 (ib : Int), .int .i64 lq] 46)) ⟨#[108, 105, 110, 107]⟩ na x1 nb x2
            rw [World.size_alloc] at this
            exact this
          have o0 := R8.cell 0 _ rfl
          have o1 := R8.cell 1 _ rfl
          have o2 := R8.cell 2 _ rfl
          have o3 := R8.cell 3 _ rfl
          obtain ⟨gd', od', e', _, n3, n4⟩ := NA.out _ P8.1
          cases e'
          obtain ⟨_, q0, q1, _⟩ := id P5.2.1
          obtain ⟨_, q2, q3, _⟩ := id P8.2.1
          have xr : wr.heap.size ≠ b := by have := P4.2.2.2.1; omega
          clear P4
          have C9 : Hid (∀ W, PS w W b (.slice (some ⟨gd, od, none⟩) ds.length cap) (.slice (some ⟨gl, ol, none⟩) ls.length cap') (ac ++ lineT ([⟨#[108, 105, 110, 107]⟩, na, x1, nb, x2].map (·.data.toList))) → W.cell? ⟨gd, od + ia * 7, none⟩ = some (.string na) ∧ W.cell? ⟨gd, od + ib * 7, none⟩ = some (.string nb) ∧ W.cell? ⟨w.heap.size, 0, none⟩ = some (.slice (some ⟨gd, od, none⟩) ds.length cap)) := fun W h => by
            obtain ⟨gd', od', e', _, n3, n4⟩ := NA.out _ h.1
            cases e'
            exact ⟨n3, n4, h.2.1.2.1⟩
          go_wp2_with fail
          go_region_held3 (fun w' => w'.cell? ⟨wr.heap.size, 0, none⟩ = some (.int .i64 (ia : Int)) ∧ w'.cell? ⟨wr.heap.size, 1, none⟩ = some (.int .i64 lp) ∧ w'.cell? ⟨wr.heap.size, 2, none⟩ = some (.int .i64 (ib : Int)) ∧ w'.cell? ⟨wr.heap.size, 3, none⟩ = some (.int .i64 lq) ∧ w'.cell? ⟨w.heap.size, 0, none⟩ = some (.slice (some ⟨gd, od, none⟩) ds.length cap) ∧ w'.cell? ⟨gd, od + ia * 7, none⟩ = some (.string na) ∧ w'.cell? ⟨gd, od + ib * 7, none⟩ = some (.string nb)) (go_keep) (first | (go_at_call 19; refine (PL.out ac _ ([⟨#[108, 105, 110, 107]⟩, na, x1, nb, x2].map (·.data.toList)) _ P8.2.2.2.2 W8 (Nat.le_of_lt P8.2.2.2.1) (by rw [HLN.out]; omega) (by simp)).mono ?_; rintro e w7 ⟨x7, rfl, T9, hb9, K9⟩; have P9 := P8.line T9 hb9; have R9 := R8.line K9 xr (by decide); have u0 := R9.cell 0 _ rfl; have u1 := R9.cell 1 _ rfl; have u2 := R9.cell 2 _ rfl; have u3 := R9.cell 3 _ rfl; obtain ⟨u4, u5, u6⟩ := C9.out _ P9) | (go_at_call_of 15 (Value.int .i64 lp); refine (I1.out _).mono ?_; rintro e w4 ⟨rfl, rfl⟩) | (go_at_call_of 15 (Value.int .i64 lq); refine (I2.out _).mono ?_; rintro e w4 ⟨rfl, rfl⟩))
          have HV : Hid (ac ++ lineT ([⟨#[108, 105, 110, 107]⟩, na, x1, nb, x2].map (·.data.toList)) = acc ++ (ls.take (j + 1)).flatMap (linkT ds)) := by
            show _ = _
            rw [HLN.out, HFR.out, HJ.out, List.append_assoc]
          have hvl : (ac ++ lineT ([⟨#[108, 105, 110, 107]⟩, na, x1, nb, x2].map (·.data.toList))).length ≤ acc.length + 46 * (j + 1) := by
            rw [List.length_append, HLN.out]
            omega
          go_wp2_with fail
          go_roundw
          case rel => exact ⟨j + 1, _, by go_num, by omega, P9, HV, hvl⟩
          case measure => simp [intOf]; omega
        · have HV : Hid (ac = netT ds ls) := by
            show _ = _
            rw [HJ.out, show j = ls.length by omega, List.take_length, HA2.out]
            rfl
          have ST : Hid (Calls Tryd.prog 23 #[.pointer (some ⟨b, 0, none⟩)] wr fun e w' => e = .returned (.string ⟨ac.toArray⟩) ∧ Below b wr w') := (Tryd.Builder_String_any_k b b ac wr P4.2.2.2.2 (Nat.le_of_lt P4.2.2.2.1)).mono fun e w' h => ⟨h.1, h.2.2.1⟩
          go_wp2_with fail
          refine ST.out.mono ?_
          rintro e w5 ⟨rfl, hb5⟩
          have D5 := P4.1.trans (hb5.mono (Nat.le_of_lt P4.2.2.1))
          go_wp2_with fail
          go_ret2
          exact ⟨by rw [HV.out]; rfl, D5⟩
end Go.Proofs.YtkckgoeemfjkkaaDoor
