/-
  The document's answer on nets: Net.
-/
import Derived.Test.YtnkgjkoncglfjaaGreatDoorZC
import Derived.Test.YtnkgjkoncglfjaaGreatDoorZN
import Derived.Test.YtnkgjkoncglfjaaGreatDoorZH
namespace Go.Proofs.YtnkgjkoncglfjaaGreatDoor
open Go.RowKit

def endsL (ls : List Lk) : List (Int × Int) := ls.flatMap fun l => [(l.a, l.p), (l.b, l.q)]
theorem endsL_snoc (ls : List Lk) (l : Lk) : endsL (ls ++ [l]) = endsL ls ++ [(l.a, l.p), (l.b, l.q)] := by simp [endsL]
theorem endsL_take {ls : List Lk} {k : Nat} {l : Lk} (h : ls[k]? = some l) : endsL (ls.take (k + 1)) = endsL (ls.take k) ++ [(l.a, l.p), (l.b, l.q)] := by
  obtain ⟨hk, e⟩ := List.getElem?_eq_some_iff.1 h
  rw [List.take_succ_eq_append_getElem hk, e, endsL_snoc]
theorem endsL_len : ∀ ls : List Lk, (endsL ls).length = 2 * ls.length
  | [] => rfl
  | l :: ls => by
    have := endsL_len ls
    show (endsL ls).length + 1 + 1 = _
    rw [this, List.length_cons]
    omega
theorem beqI (a b : Int) : (a == b) = (b == a) := by rw [Bool.eq_iff_iff]; simp; exact eq_comm
theorem hasP_meet (l : Lk) : ∀ ls : List Lk, (hasP (endsL ls) (l.a, l.p) || hasP (endsL ls) (l.b, l.q)) = ls.any (fun m => meetB m l)
  | [] => rfl
  | m :: ls => by
    have ih := hasP_meet l ls
    unfold hasP at ih ⊢
    rw [show endsL (m :: ls) = (m.a, m.p) :: (m.b, m.q) :: endsL ls from rfl, List.any_cons, List.any_cons, List.any_cons, List.any_cons, List.any_cons, ← ih]
    unfold meetB
    rw [beqI l.a m.a, beqI l.p m.p, beqI l.b m.a, beqI l.q m.p, beqI l.a m.b, beqI l.p m.q, beqI l.b m.b, beqI l.q m.q]
    generalize ((m.a == l.a) && (m.p == l.p)) = x1
    generalize ((m.a == l.b) && (m.p == l.q)) = x2
    generalize ((m.b == l.a) && (m.q == l.p)) = x3
    generalize ((m.b == l.b) && (m.q == l.q)) = x4
    generalize (endsL ls).any (fun x => ((l.a, l.p) : Int × Int).1 == x.1 && ((l.a, l.p) : Int × Int).2 == x.2) = x5
    generalize (endsL ls).any (fun x => ((l.b, l.q) : Int × Int).1 == x.1 && ((l.b, l.q) : Int × Int).2 == x.2) = x6
    cases x1 <;> cases x2 <;> cases x3 <;> cases x4 <;> cases x5 <;> cases x6 <;> rfl
theorem ownsRow_bel {W W' : World} {B e size n : Nat} {v : Value} {xs : List Value} (h : W.ownsRow B e size v n xs) (hb : Below W.heap.size W W') : W'.ownsRow B e size v n xs := by
  obtain ⟨hl, hc⟩ := h
  refine ⟨hl, ?_⟩
  rcases hc with h0 | ⟨g, cap, cur, rfl, hbg, hg, rest⟩
  · exact .inl h0
  · exact .inr ⟨g, cap, cur, rfl, hbg, (hb.block g (Array.getElem?_eq_some_iff.1 hg).1).trans hg, rest⟩
theorem pl_yes {ds : List Dv} {d p : Int} : isPl ds d p = ((decide (0 ≤ d) && decide (d ≤ (ds.length : Int) - 1)) && (decide (0 ≤ p) && decide (p ≤ portsV (kindAt ds d) - 1))) := by
  unfold isPl
  rw [show decide (d ≤ (ds.length : Int) - 1) = decide (d < (ds.length : Int)) by rw [decide_eq_decide]; omega, show decide (p ≤ portsV (kindAt ds d) - 1) = decide (p < portsV (kindAt ds d)) by rw [decide_eq_decide]; omega, Bool.and_assoc (decide (0 ≤ d) && decide (d < (ds.length : Int)))]
theorem nameOk_eq (s : ByteArray) : nameOk s = ((decide ((1 : Int) ≤ (s.size : Int)) && decide ((s.size : Int) ≤ 8)) && (s.data.toList.drop 0).all nameB) := by
  unfold nameOk
  rw [show decide ((1 : Int) ≤ (s.size : Int)) = decide (1 ≤ s.size) by rw [decide_eq_decide]; omega, show decide ((s.size : Int) ≤ 8) = decide (s.size ≤ 8) by rw [decide_eq_decide]; omega]
  rfl
/-- What the rounds over links keep. -/
def EndS (w W : World) (n1 : Nat) (v1 v2 : Value) (a b c d : Value) (u : Value) (es : List (Int × Int)) : Prop :=
  Below w.heap.size w W ∧ w.heap.size + 1 ≤ W.heap.size ∧ Box2 W w.heap.size v1 v2 ∧ Lk4 W n1 a b c d ∧ W.ownsRow (w.heap.size + 1) 78 2 u es.length (cellsP es)
theorem EndS.keep {w W W' : World} {n1 : Nat} {v1 v2 a b c d u : Value} {es : List (Int × Int)} (h : EndS w W n1 v1 v2 a b c d u es) (hb : Below W.heap.size W W') : EndS w W' n1 v1 v2 a b c d u es :=
  ⟨chnN hb h.1, Nat.le_trans h.2.1 hb.size, h.2.2.1.below hb h.2.2.1.1, h.2.2.2.1.below hb h.2.2.2.1.1, ownsRow_bel h.2.2.2.2 hb⟩
theorem EndS.drewN {w W : World} {n1 : Nat} {v1 v2 a b c d u : Value} {es : List (Int × Int)} (h : EndS w W n1 v1 v2 a b c d u es) (n : Nat) : EndS w (W.drewN n) n1 v1 v2 a b c d u es := h.keep (belowNN (Below.refl _ _) n)
theorem EndS.drew {w W : World} {n1 : Nat} {v1 v2 a b c d u : Value} {es : List (Int × Int)} (h : EndS w W n1 v1 v2 a b c d u es) : EndS w W.drew n1 v1 v2 a b c d u es := h.keep (Below.refl _ _).drew
theorem EndS.cells {w W : World} {n1 : Nat} {v1 v2 a b c d u : Value} {es : List (Int × Int)} (h : EndS w W n1 v1 v2 a b c d u es) : W.cell? ⟨n1, 0, none⟩ = some a ∧ W.cell? ⟨n1, 1, none⟩ = some b ∧ W.cell? ⟨n1, 2, none⟩ = some c ∧ W.cell? ⟨n1, 3, none⟩ = some d := h.2.2.2.1.2
theorem EndS.below {w W : World} {n1 : Nat} {v1 v2 a b c d u : Value} {es : List (Int × Int)} (h : EndS w W n1 v1 v2 a b c d u es) : Below w.heap.size w W := h.1
set_option maxHeartbeats 16000000 in
set_option maxRecDepth 100000 in
theorem rnet_row (A B : Option Addr) (cap cap' : Nat) (ds : List Dv) (ls : List Lk) (res : Int) (w : World) (hD : Hid (Devs w.heap.size w (.slice A ds.length cap) ds)) (hL : Hid (Links w.heap.size w (.slice B ls.length cap') ls)) (h10 : ds.length ≤ 10) (h15 : ls.length ≤ 15) (HR : Hid (res = if devsFrom ds 0 = 0 then linksFrom ds ls 0 else devsFrom ds 0)) :
    Calls Tryz.prog 13 #[.agg #[.slice A ds.length cap, .slice B ls.length cap']] w fun e w' => e = .returned (.int .i64 res) ∧ Below w.heap.size w w' := by
  obtain ⟨_, hc, hm⟩ := hD.out.len
  obtain ⟨_, hc', hm'⟩ := hL.out.len
  unfold maxLen at hm hm'
  have t10 : decide ((10 : Int) < (ds.length : Int)) = false := by simp; omega
  have t15 : decide ((15 : Int) < (ls.length : Int)) = false := by simp; omega
  have D0 := Below.alN (Below.refl w.heap.size w) (.cells #[.slice A ds.length cap, .slice B ls.length cap'] 25)
  have B0 := box2_new w (.slice A ds.length cap) (.slice B ls.length cap') 25
  go_enter Tryz.func13, Tryz.ntmps13
  go_wp2_with fail
  go_loopw [3] (fun i wr => ∃ k : Nat, i = .int .i64 (k : Int) ∧ k ≤ ds.length ∧ Below w.heap.size w wr ∧ Box2 wr w.heap.size (.slice A ds.length cap) (.slice B ls.length cap') ∧ Hid (devsFrom ds 0 = devsFrom ds k)) (fun i _ => ds.length - (intOf i).toNat)
  case atStart => exact ⟨0, rfl, by omega, D0, B0, rfl⟩
  case round =>
    clear D0 B0
    obtain ⟨k, rfl, hk, D1, B1, hl⟩ := hrel
    obtain ⟨_, b0, b1, _⟩ := id B1
    by_cases hlt : k < ds.length
    · obtain ⟨d, hxk⟩ : ∃ d, ds[k]? = some d := ⟨_, List.getElem?_eq_getElem hlt⟩
      obtain ⟨b, o, vb, vr, vt, rfl, hb, z1, z2, z3, c0, c1, c2, c3, c4, c5, c6⟩ := (hD.out.below D1).at hxk
      have y1 := z1
      have y2 := z2
      have y3 := z3
      obtain ⟨Ab, cb, rfl, _, _, _, _⟩ := z1
      obtain ⟨Ar, cr, rfl, _, _, _, _⟩ := z2
      obtain ⟨At, ct, rfl, _, _, _, _⟩ := z3
      have HF : Hid (devsFrom ds k = if devWrong ds k d = 0 then devsFrom ds (k + 1) else devWrong ds k d) := devsFrom_at hxk
      have HW : Hid (devWrong ds k d = if nameOk d.name then (if (ds.take k).any (fun x => x.name.toList == d.name.toList) then 5 else devC d) else 3) := rfl
      have HNM : Hid (∀ j x, ds[j]? = some x → ∀ W, Below w.heap.size w W → W.cell? ⟨b, o + j * 7, none⟩ = some (.string x.name)) := fun j x hx W h => by
        obtain ⟨b', o', _, _, _, e, _, _, _, _, q, _⟩ := (hD.out.below h).at hx
        cases e
        exact q
      have CD : Hid (∀ W, Below w.heap.size w W → Calls Tryz.prog 35 #[devA d.name d.kind d.addr d.pool (.slice Ab d.backs.length cb) (.slice Ar d.rules.length cr) (.slice At d.routes.length ct)] W fun e w' => e = .returned (.int .i64 (devC d)) ∧ Below W.heap.size W w') := fun W h => by
        have hd := hD.out.below h
        obtain ⟨b', o', vb', vr', vt', e1, _, s1, s2, s3, q0, q1, q2, q3, q4, q5, q6⟩ := hd.at hxk
        cases e1
        have g4 := (D1.cell (p := ⟨b, o + k * 7 + 4, none⟩) hb).symm.trans c4
        have g5 := (D1.cell (p := ⟨b, o + k * 7 + 5, none⟩) hb).symm.trans c5
        have g6 := (D1.cell (p := ⟨b, o + k * 7 + 6, none⟩) hb).symm.trans c6
        have f4 := (h.cell (p := ⟨b, o + k * 7 + 4, none⟩) hb).symm.trans q4
        have f5 := (h.cell (p := ⟨b, o + k * 7 + 5, none⟩) hb).symm.trans q5
        have f6 := (h.cell (p := ⟨b, o + k * 7 + 6, none⟩) hb).symm.trans q6
        obtain rfl := Option.some.inj (g4.symm.trans f4)
        obtain rfl := Option.some.inj (g5.symm.trans f5)
        obtain rfl := Option.some.inj (g6.symm.trans f6)
        have t1 := SlAt.mono s1 h.size (fun _ _ _ h => h)
        have t2 := SlAt.mono s2 h.size (fun _ _ _ h => h)
        have t3 := SlAt.mono s3 h.size (fun _ _ _ h => h)
        exact rdevice_any d _ _ _ (checkV (d.routes.map rtOf)) W t1 t2 t3 (fun W' h' => routes_any W' (routes_of (SlAt.mono (SlAt.below t3 h' (fun _ _ _ h => h)) h'.size (fun _ _ _ h => h))))
      have IN : Hid (∀ w, Calls Tryz.prog 34 #[.int .i64 (d.name.size : Int), .int .i64 1, .int .i64 8] w fun e w' => e = .returned (.bool (decide (1 ≤ (d.name.size : Int)) && decide ((d.name.size : Int) ≤ 8))) ∧ w' = w) := fun w => inN _ 1 8 w
      have HS : Hid (((decide ((1 : Int) ≤ (d.name.size : Int)) && decide ((d.name.size : Int) ≤ 8)) && (d.name.data.toList.drop 0).all nameB) = nameOk d.name) := (nameOk_eq d.name).symm
      have hsz := d.hs
      unfold maxLen at hsz
      have k1 : (0 : Int) ≤ (k : Int) := by omega
      have k2 : (k : Int) < (ds.length : Int) := by omega
      have lw := D1.size
      have HX : Hid (ds[k]? = some d) := hxk
      clear hxk y1 y2 y3
      generalize devC d = dc at *
      generalize hnm : d.name = nm at *
      have Hnm : Hid (d.name = nm) := hnm
      clear hnm
      generalize (decide (1 ≤ (nm.size : Int)) && decide ((nm.size : Int) ≤ 8)) = sx at *
      generalize d.backs.length = nb at *
      generalize d.rules.length = nr at *
      generalize d.routes.length = nt at *
      generalize d.kind = kd at *
      generalize d.addr = ad at *
      generalize d.pool = pl at *
      have D2 := Below.alN D1 (.cells #[.string nm, .int .i64 kd, .int .i64 ad, .int .u8 (pl : Int), .slice Ab nb cb, .slice Ar nr cr, .slice At nt ct] 50)
      have B2 := B1.alloc (.cells #[.string nm, .int .i64 kd, .int .i64 ad, .int .u8 (pl : Int), .slice Ab nb cb, .slice Ar nr cr, .slice At nt ct] 50)
      have V2 := seven_new wr (.string nm) (.int .i64 kd) (.int .i64 ad) (.int .u8 (pl : Int)) (.slice Ab nb cb) (.slice Ar nr cr) (.slice At nt ct) 50
      obtain ⟨_, v0, v1, v2, v3, v4, v5, v6⟩ := id V2
      generalize hno : nameOk nm = nok at *
      have Hno : Hid (nameOk nm = nok) := hno
      clear hno
      go_wp2_with fail
      refine (IN.out _).mono ?_
      rintro e w2 ⟨rfl, rfl⟩
      clear c0 c1 c2 c3 c4 c5 c6 IN
      go_wp2_with fail
      go_loop [5, 6] (fun x j => ∃ (y : Bool) (i : Nat), x = .bool y ∧ j = .int .i64 (i : Int) ∧ i ≤ nm.size ∧ Hid ((y && (nm.data.toList.drop i).all nameB) = nok)) (fun _ j => nm.size - (intOf j).toNat)
      case atStart => exact ⟨sx, 0, rfl, rfl, by omega, HS⟩
      case round =>
        clear HS
        obtain ⟨y, i, rfl, rfl, hi, hd⟩ := hrel
        by_cases hil : i < nm.size
        · have HA : Hid ((nm.data.toList.drop i).all nameB = (nameB nm[i] && (nm.data.toList.drop (i + 1)).all nameB)) := all_dropN nm i hil
          have HN : Hid (nameB nm[i] = ((decide (97 ≤ (nm[i].toNat : Int)) && decide ((nm[i].toNat : Int) ≤ 122)) || (decide (48 ≤ (nm[i].toNat : Int)) && decide ((nm[i].toNat : Int) ≤ 57)))) := rfl
          cases y
          · have HV : Hid ((false && (nm.data.toList.drop (i + 1)).all nameB) = nok) := hd
            clear hd HA HN
            go_wp2_with fail
            go_round
            case rel => exact ⟨false, i + 1, rfl, congrArg (Value.int .i64) (by omega), by omega, HV⟩
            case measure => simp [intOf]; omega
          · cases a1 : decide (97 ≤ (nm[i].toNat : Int)) <;> cases a2 : decide ((nm[i].toNat : Int) ≤ 122) <;> cases a3 : decide (48 ≤ (nm[i].toNat : Int)) <;> cases a4 : decide ((nm[i].toNat : Int) ≤ 57)
            all_goals
              rw [a1, a2, a3, a4] at HN
              first
                | (have HV : Hid ((true && (nm.data.toList.drop (i + 1)).all nameB) = nok) := by
                     show _ = _
                     rw [← hd.out, HA.out, HN.out]
                     rfl
                   clear HN HA hd
                   go_wp2_with fail
                   go_round
                   case rel => exact ⟨true, i + 1, rfl, congrArg (Value.int .i64) (by omega), by omega, HV⟩
                   case measure => simp [intOf]; omega)
                | (have HV : Hid ((false && (nm.data.toList.drop (i + 1)).all nameB) = nok) := by
                     show _ = _
                     rw [← hd.out, HA.out, HN.out]
                     rfl
                   clear HN HA hd
                   go_wp2_with fail
                   go_round
                   case rel => exact ⟨false, i + 1, rfl, congrArg (Value.int .i64) (by omega), by omega, HV⟩
                   case measure => simp [intOf]; omega)
        · have HY : Hid (y = nok) := by
            show _ = _
            rw [← hd.out, List.drop_eq_nil_of_le (by rw [← Lib.size_eq]; omega)]
            simp
          clear hd
          cases y
          · have HV : Hid (res = 3) := by
              have e : devWrong ds k d = 3 := by rw [HW.out, ← HY.out]; rfl
              show _ = _
              rw [HR.out, hl.out, HF.out, e]
              rfl
            go_wp2_with fail
            go_ret
            exact ⟨by rw [HV.out]; rfl, D2⟩
          · have HW2 : Hid (devWrong ds k d = if (ds.take k).any (fun x => x.name.toList == nm.toList) then 5 else dc) := by
              show _ = _
              rw [HW.out, ← HY.out]
              rfl
            clear HW HY
            go_wp2_with fail
            go_loopw [8] (fun j wr' => ∃ i : Nat, j = .int .i64 (i : Int) ∧ i ≤ k ∧ Below w.heap.size w wr' ∧ Box2 wr' w.heap.size (.slice (some ⟨b, o, none⟩) ds.length cap) (.slice B ls.length cap') ∧ Seven wr' wr.heap.size (.string nm) (.int .i64 kd) (.int .i64 ad) (.int .u8 (pl : Int)) (.slice Ab nb cb) (.slice Ar nr cr) (.slice At nt ct) ∧ Hid ((ds.take i).any (fun x => x.name.toList == nm.toList) = false)) (fun j _ => k - (intOf j).toNat)
            case atStart => exact ⟨0, rfl, by omega, D2, B2, V2, rfl⟩
            case round =>
              clear D2 B2 V2 v0 v1 v2 v3 v4 v5 v6 b0 b1 B1
              obtain ⟨i, rfl, hik, D3, B3, V3, hno⟩ := hrel
              obtain ⟨_, b0, b1, _⟩ := id B3
              obtain ⟨_, v0, v1, v2, v3, v4, v5, v6⟩ := id V3
              by_cases hij : i < k
              · obtain ⟨x, hx⟩ : ∃ x, ds[i]? = some x := ⟨_, List.getElem?_eq_getElem (by omega)⟩
                have cn := HNM.out i x hx _ D3
                have HT : Hid ((ds.take (i + 1)).any (fun x => x.name.toList == nm.toList) = ((ds.take i).any (fun x => x.name.toList == nm.toList) || (x.name.toList == nm.toList))) := by
                  obtain ⟨hk', e⟩ := List.getElem?_eq_some_iff.1 hx
                  show _ = _
                  rw [List.take_succ_eq_append_getElem hk', e]
                  simp
                have HM : Hid ((x.name.toList == nm.toList) = true → (ds.take k).any (fun x => x.name.toList == nm.toList) = true) := fun h => List.any_eq_true.2 ⟨x, List.mem_of_getElem? (by rw [List.getElem?_take, if_pos hij]; exact hx), h⟩
                have j1 : (0 : Int) ≤ (i : Int) := by omega
                have j2 : (i : Int) < (ds.length : Int) := by omega
                have j3 : decide ((i : Int) < (k : Int)) = true := by simp; omega
                clear hx
                cases hv : (x.name.toList == nm.toList)
                · have HV : Hid ((ds.take (i + 1)).any (fun x => x.name.toList == nm.toList) = false) := by
                    show _ = _
                    rw [HT.out, hno.out, hv]
                    rfl
                  clear HT HM hno
                  go_wp2_with fail
                  go_quiet (fail)
                  go_wp2_with fail
                  go_roundw
                  case rel => exact ⟨i + 1, by go_num, by omega, belowNN D3 _, B3, V3, HV⟩
                  case measure => simp [intOf]; omega
                · have HV : Hid (res = 5) := by
                    have e : devWrong ds k d = 5 := by rw [HW2.out, HM.out hv]; rfl
                    show _ = _
                    rw [HR.out, hl.out, HF.out, e]
                    rfl
                  clear HT HM hno
                  go_wp2_with fail
                  go_quiet (fail)
                  go_wp2_with fail
                  go_ret
                  exact ⟨by rw [HV.out]; rfl, belowNN D3 _⟩
              · have j3 : decide ((i : Int) < (k : Int)) = false := by simp; omega
                have HW3 : Hid (devWrong ds k d = dc) := by
                  have e := hno.out
                  rw [show i = k by omega] at e
                  show _ = _
                  rw [HW2.out, e]
                  rfl
                clear HW2 hno
                go_wp2_with fail
                refine (CD.out _ D3).mono ?_
                rintro e w5 ⟨rfl, hb5⟩
                have D5 := chnN hb5 D3
                have B5 := B3.below hb5 B3.1
                clear hb5 D3 B3 V3 v0 v1 v2 v3 v4 v5 v6 b0 b1 CD
                cases h0 : (dc == 0)
                · have HV : Hid (res = dc) := by
                    have hne : ¬ dc = 0 := by simpa using h0
                    show _ = _
                    rw [HR.out, hl.out, HF.out, HW3.out, if_neg hne, if_neg hne]
                  go_wp2_with fail
                  go_ret
                  exact ⟨by rw [HV.out]; rfl, D5⟩
                · have HV : Hid (devsFrom ds 0 = devsFrom ds (k + 1)) := by
                    have he : dc = 0 := by simpa using h0
                    show _ = _
                    rw [hl.out, HF.out, HW3.out, if_pos he]
                  have h00 : dc = 0 := by simpa using h0
                  subst h00
                  clear h0
                  go_wp2_with fail
                  go_roundw
                  case rel => first | exact ⟨k + 1, by go_num, by omega, D5, B5, HV⟩ | ((repeat apply Exists.intro); exact ⟨⟨k + 1, by go_num, by omega, D5, B5, HV⟩, rfl⟩)
                  case measure => simp [intOf]; omega
    · have HZ : Hid (res = linksFrom ds ls 0) := by
        show _ = _
        rw [HR.out, hl.out, devsFrom_end (by omega), if_pos rfl]
      clear hl HR
      go_wp2_with fail
      go_loopw [10, 11] (fun ve i wr => ∃ k : Nat, i = .int .i64 (k : Int) ∧ k ≤ ls.length ∧ w.heap.size + 1 ≤ wr.heap.size ∧ Below w.heap.size w wr ∧ Box2 wr w.heap.size (.slice A ds.length cap) (.slice B ls.length cap') ∧ wr.ownsRow (w.heap.size + 1) 78 2 ve (endsL (ls.take k)).length (cellsP (endsL (ls.take k))) ∧ Hid (res = linksFrom ds ls k)) (fun _ i _ => ls.length - (intOf i).toNat)
      case atStart => exact ⟨0, rfl, by omega, B1.1, D1, B1, ⟨rfl, .inl ⟨rfl, rfl⟩⟩, HZ⟩
      case round =>
        clear D1 B1 HZ b0 b1
        obtain ⟨j, rfl, hj, hsz, D1, B1, O1, hl⟩ := hrel
        obtain ⟨_, b0, b1, _⟩ := id B1
        by_cases hjl : j < ls.length
        · obtain ⟨l, hxk⟩ : ∃ l, ls[j]? = some l := ⟨_, List.getElem?_eq_getElem hjl⟩
          obtain ⟨b, o, rfl, hb, c0, c1, c2, c3⟩ := (hL.out.below D1).at hxk
          have HF : Hid (linksFrom ds ls j = if linkWrong ds ls j l = 0 then linksFrom ds ls (j + 1) else linkWrong ds ls j l) := linksFrom_at hxk
          have HW : Hid (linkWrong ds ls j l = if isPl ds l.a l.p && isPl ds l.b l.q then (if selfB l || (hasP (endsL (ls.take j)) (l.a, l.p) || hasP (endsL (ls.take j)) (l.b, l.q)) then 5 else 0) else 1) := by
            show _ = _
            rw [hasP_meet]
            rfl
          have HE : Hid (endsL (ls.take (j + 1)) = endsL (ls.take j) ++ [(l.a, l.p), (l.b, l.q)]) := endsL_take hxk
          have LE : Hid ((endsL (ls.take j)).length ≤ 1000) := by show _ ≤ _; rw [endsL_len, List.length_take]; omega
          have HSELF : Hid (selfB l = ((l.a == l.b) && (l.p == l.q))) := rfl
          have k1 : (0 : Int) ≤ (j : Int) := by omega
          have k2 : (j : Int) < (ls.length : Int) := by omega
          have lw := D1.size
          clear hxk
          generalize endsL (ls.take j) = es at *
          generalize selfB l = sf at *
          generalize hla : l.a = la at *
          generalize hlp : l.p = lp at *
          generalize hlb : l.b = lb at *
          generalize hlq : l.q = lq at *
          clear hla hlp hlb hlq
          have D2 := Below.alN D1 (.cells #[.int .i64 la, .int .i64 lp, .int .i64 lb, .int .i64 lq] 44)
          have B2 := B1.alloc (.cells #[.int .i64 la, .int .i64 lp, .int .i64 lb, .int .i64 lq] 44)
          have D3 := Below.alN D2 (.cells #[.int .i64 la, .int .i64 lp, .int .i64 lb, .int .i64 lq] 78)
          have B3 := B2.alloc (.cells #[.int .i64 la, .int .i64 lp, .int .i64 lb, .int .i64 lq] 78)
          have L3 := lk4_new (wr.alloc (.cells #[.int .i64 la, .int .i64 lp, .int .i64 lb, .int .i64 lq] 44)) (.int .i64 la) (.int .i64 lp) (.int .i64 lb) (.int .i64 lq) 78
          rw [World.size_alloc] at L3
          have O3 := ownsRow_bel (ownsRow_bel O1 ((Below.refl _ _).alloc (Nat.le_refl _) (.cells #[.int .i64 la, .int .i64 lp, .int .i64 lb, .int .i64 lq] 44))) ((Below.refl _ _).alloc (Nat.le_refl _) (.cells #[.int .i64 la, .int .i64 lp, .int .i64 lb, .int .i64 lq] 78))
          have E3 : EndS w ((wr.alloc (.cells #[.int .i64 la, .int .i64 lp, .int .i64 lb, .int .i64 lq] 44)).alloc (.cells #[.int .i64 la, .int .i64 lp, .int .i64 lb, .int .i64 lq] 78)) (wr.heap.size + 1) (.slice A ds.length cap) (.slice (some ⟨b, o, none⟩) ls.length cap') (.int .i64 la) (.int .i64 lp) (.int .i64 lb) (.int .i64 lq) u10 es := ⟨D3, by simp; omega, B3, L3, O3⟩
          go_wp2_with fail
          clear c0 c1 c2 c3 D1 D2 B1 B2 O1 b0 b1 D3 B3 L3 O3
          generalize wr.heap.size + 1 = n1 at *
          go_loopw [14] (fun x wr' => ∃ i : Nat, x = .int .i64 (i : Int) ∧ i ≤ 2 ∧ EndS w wr' n1 (.slice A ds.length cap) (.slice (some ⟨b, o, none⟩) ls.length cap') (.int .i64 la) (.int .i64 lp) (.int .i64 lb) (.int .i64 lq) u10 es ∧ Hid ((0 < i → isPl ds la lp = true) ∧ (1 < i → isPl ds lb lq = true))) (fun x _ => 2 - (intOf x).toNat)
          case atStart => exact ⟨0, rfl, by omega, E3, ⟨fun h => by omega, fun h => by omega⟩⟩
          case round =>
            clear E3
            obtain ⟨i, rfl, hi2, E3, HP⟩ := hrel
            obtain ⟨_, b0, b1, _⟩ := id E3.2.2.1
            obtain ⟨m0, m1, m2, m3⟩ := E3.cells
            by_cases hi : i < 2
            · obtain ⟨d, p, cd, cp, HQ⟩ : ∃ d p : Int, wr.cell? ⟨n1, i * 2, none⟩ = some (.int .i64 d) ∧ wr.cell? ⟨n1, i * 2 + 1, none⟩ = some (.int .i64 p) ∧ Hid ((i = 0 ∧ d = la ∧ p = lp) ∨ (i = 1 ∧ d = lb ∧ p = lq)) := by
                by_cases h : i = 0
                · subst h
                  exact ⟨la, lp, m0, m1, Or.inl ⟨rfl, rfl, rfl⟩⟩
                · obtain rfl : i = 1 := by omega
                  exact ⟨lb, lq, m2, m3, Or.inr ⟨rfl, rfl, rfl⟩⟩
              have HBAD : Hid (isPl ds d p = false → res = 1) := fun h => by
                have e : linkWrong ds ls j l = 1 := by
                  rw [HW.out]
                  rcases HQ.out with ⟨_, rfl, rfl⟩ | ⟨_, rfl, rfl⟩
                  · rw [h]; rfl
                  · rw [h, Bool.and_false]; rfl
                rw [hl.out, HF.out, e]
                rfl
              have HGOOD : Hid (isPl ds d p = true → ((0 < i + 1 → isPl ds la lp = true) ∧ (1 < i + 1 → isPl ds lb lq = true))) := fun h => by
                rcases HQ.out with ⟨rfl, rfl, rfl⟩ | ⟨rfl, rfl, rfl⟩
                · exact ⟨fun _ => h, fun h1 => by omega⟩
                · exact ⟨fun _ => HP.out.1 (by omega), fun _ => h⟩
              have HPL : Hid (isPl ds d p = ((decide (0 ≤ d) && decide (d ≤ (ds.length : Int) - 1)) && (decide (0 ≤ p) && decide (p ≤ portsV (kindAt ds d) - 1)))) := pl_yes
              clear HQ HP m0 m1 m2 m3
              have i1 : (0 : Int) ≤ (i : Int) := by omega
              have i2 : (i : Int) < 2 := by omega
              have wl : IntKind.i64.wrap ((ds.length : Int) - 1) = (ds.length : Int) - 1 := by rw [IntKind.wrap_i64] <;> omega
              have I0 : Hid (∀ w, Calls Tryz.prog 34 #[.int .i64 d, .int .i64 0, .int .i64 ((ds.length : Int) - 1)] w fun e w' => e = .returned (.bool (decide (0 ≤ d) && decide (d ≤ (ds.length : Int) - 1))) ∧ w' = w) := fun w => inN _ 0 _ w
              cases hx0 : (decide (0 ≤ d) && decide (d ≤ (ds.length : Int) - 1))
              · have HV : Hid (res = 1) := HBAD.out (by rw [HPL.out, hx0]; rfl)
                rw [hx0] at I0
                clear HBAD HGOOD HPL hx0
                go_wp2_with fail
                go_quiet ((go_at_call 34; exact Calls.quiet_of_same (I0.out _)))
                go_wp2_with fail
                go_ret
                exact ⟨by rw [HV.out]; rfl, (E3.drewN _).below⟩
              · have hd : 0 ≤ d ∧ d ≤ (ds.length : Int) - 1 := by simpa using hx0
                rw [hx0] at I0 HPL
                clear hx0
                obtain ⟨i', rfl⟩ : ∃ i' : Nat, d = (i' : Int) := ⟨d.toNat, by omega⟩
                have hil : i' < ds.length := by omega
                obtain ⟨x, hx⟩ : ∃ x, ds[i']? = some x := ⟨_, List.getElem?_eq_getElem hil⟩
                obtain ⟨bd, od, _, _, _, rfl, hbd, _, _, _, _, ck, _⟩ := (hD.out.below E3.1).at hx
                have ek : kindAt ds (i' : Int) = x.kind := by
                  unfold kindAt
                  rw [Int.toNat_natCast, hx]
                  rfl
                rw [ek] at HPL
                obtain ⟨pk, hpk, hp4⟩ := portsV_nat x.kind
                have PO : Hid (∀ w, Calls Tryz.prog 36 #[.int .i64 x.kind] w fun e w' => e = .returned (.int .i64 (portsV x.kind)) ∧ Below w.heap.size w w') := fun w => rports_any x.kind w
                rw [hpk] at PO HPL
                have wp : IntKind.i64.wrap ((pk : Int) - 1) = (pk : Int) - 1 := by rw [IntKind.wrap_i64] <;> omega
                have I1 : Hid (∀ w, Calls Tryz.prog 34 #[.int .i64 p, .int .i64 0, .int .i64 ((pk : Int) - 1)] w fun e w' => e = .returned (.bool (decide (0 ≤ p) && decide (p ≤ (pk : Int) - 1))) ∧ w' = w) := fun w => inN _ 0 _ w
                have j1 : (0 : Int) ≤ (i' : Int) := by omega
                have j2 : (i' : Int) < (ds.length : Int) := by omega
                clear hx hd ek hpk
                generalize (decide (0 ≤ p) && decide (p ≤ (pk : Int) - 1)) = y at *
                generalize x.kind = kd at *
                have E4 := E3.drew
                go_wp2_with fail
                go_region_held3 (fun w' => w'.cell? ⟨n1, i * 2, none⟩ = some (.int .i64 (i' : Int)) ∧ w'.cell? ⟨n1, i * 2 + 1, none⟩ = some (.int .i64 p) ∧ w'.cell? ⟨w.heap.size, 0, none⟩ = some (.slice (some ⟨bd, od, none⟩) ds.length cap) ∧ w'.cell? ⟨bd, od + i' * 7 + 1, none⟩ = some (.int .i64 kd)) (go_keep) (first | (go_at_call 36; refine (PO.out _).mono ?_; rintro e w4 ⟨rfl, hb4⟩; have E5 := E4.keep hb4; have cd5 := (hb4.cell (p := ⟨n1, i * 2, none⟩) E4.2.2.2.1.1).trans cd; have cp5 := (hb4.cell (p := ⟨n1, i * 2 + 1, none⟩) E4.2.2.2.1.1).trans cp; have ck5 := (hb4.cell (p := ⟨bd, od + i' * 7 + 1, none⟩) (Nat.lt_of_lt_of_le hbd E4.1.size)).trans ck; have b05 := (hb4.cell (p := ⟨w.heap.size, 0, none⟩) E4.2.2.1.1).trans b0) | (go_at_call_of 34 (Value.int .i64 (i' : Int)); refine (I0.out _).mono ?_; rintro e w5 ⟨rfl, rfl⟩) | (go_at_call_of 34 (Value.int .i64 p); refine (I1.out _).mono ?_; rintro e w6 ⟨rfl, rfl⟩))
                cases y
                · have HV : Hid (res = 1) := HBAD.out (by rw [HPL.out]; rfl)
                  clear HBAD HGOOD HPL
                  go_wp2_with fail
                  go_ret
                  exact ⟨by rw [HV.out]; rfl, E5.below⟩
                · have HV := HGOOD.out (by rw [HPL.out]; rfl)
                  clear HBAD HGOOD HPL
                  go_wp2_with fail
                  go_roundw
                  case rel => exact ⟨i + 1, by go_num, by omega, E5, HV⟩
                  case measure => simp [intOf]; omega
            · obtain ⟨hp1, hp2⟩ := HP.out
              have HW2 : Hid (linkWrong ds ls j l = if sf || (hasP es (la, lp) || hasP es (lb, lq)) then 5 else 0) := by
                show _ = _
                rw [HW.out, hp1 (by omega), hp2 (by omega)]
                rfl
              clear hp1 hp2 HP HW m0 m1 m2 m3
              obtain rfl : i = 2 := by omega
              have C1 : Hid (∀ W, EndS w W n1 (.slice A ds.length cap) (.slice (some ⟨b, o, none⟩) ls.length cap') (.int .i64 la) (.int .i64 lp) (.int .i64 lb) (.int .i64 lq) u10 es → Calls Tryz.prog 37 #[u10, prV la lp] W fun e w' => e = .returned (.bool (hasP es (la, lp))) ∧ Below W.heap.size W w') := fun W h => pairHas_any u10 es la lp W (Prs.own h.2.2.2.2)
              have C2 : Hid (∀ W, EndS w W n1 (.slice A ds.length cap) (.slice (some ⟨b, o, none⟩) ls.length cap') (.int .i64 la) (.int .i64 lp) (.int .i64 lb) (.int .i64 lq) u10 es → Calls Tryz.prog 37 #[u10, prV lb lq] W fun e w' => e = .returned (.bool (hasP es (lb, lq))) ∧ Below W.heap.size W w') := fun W h => pairHas_any u10 es lb lq W (Prs.own h.2.2.2.2)
              have APP : Hid (∀ W, EndS w W n1 (.slice A ds.length cap) (.slice (some ⟨b, o, none⟩) ls.length cap') (.int .i64 la) (.int .i64 lp) (.int .i64 lb) (.int .i64 lq) u10 es → ∃ v' w', (Builtin.append_ #[77, 77] 77 #[u10, .slice (some ⟨n1, 0, none⟩) 2 2]).run Tryz.prog W = .ok v' w' ∧ w.heap.size + 1 ≤ w'.heap.size ∧ Below w.heap.size w w' ∧ Box2 w' w.heap.size (.slice A ds.length cap) (.slice (some ⟨b, o, none⟩) ls.length cap') ∧ w'.ownsRow (w.heap.size + 1) 78 2 v' (es ++ [(la, lp), (lb, lq)]).length (cellsP (es ++ [(la, lp), (lb, lq)]))) := fun W h => by
                obtain ⟨h1, h2, h3, h4, h5⟩ := h
                obtain ⟨_, q0, q1, q2, q3⟩ := h4
                obtain ⟨v', w', r1, r2, r3⟩ := app_pairs 77 h5 q0 q1 q2 q3 (by have := LE.out; omega) h2
                have hbl : Below (w.heap.size + 1) W w' := Below.app2 (Below.refl _ _) h5 r3 (Nat.le_refl _) h2
                exact ⟨v', w', r1, Nat.le_trans h2 hbl.size, Below.app2 h1 h5 r3 (by omega) h2, h3.below hbl (by omega), r2⟩
              have PE : ∀ w, (binOp .eql 78 (prV la lp) (prV lb lq)).run Tryz.prog w = .ok (.bool sf) w := fun w => by rw [pair_eq, ← HSELF.out]
              generalize hasP es (la, lp) = x1 at *
              generalize hasP es (lb, lq) = x2 at *
              have E4 := E3.drew
              have H5 : Hid ((sf || (x1 || x2)) = true → res = 5) := fun h => by
                have e : linkWrong ds ls j l = 5 := by rw [HW2.out, h]; rfl
                rw [hl.out, HF.out, e]
                rfl
              have H0 : Hid ((sf || (x1 || x2)) = false → res = linksFrom ds ls (j + 1)) := fun h => by
                have e : linkWrong ds ls j l = 0 := by rw [HW2.out, h]; rfl
                rw [hl.out, HF.out, e]
                rfl
              clear HW2 HF hl HSELF
              cases sf
              · cases x1
                · have H6 : Hid (x2 = true → res = 5) := fun h => H5.out (by rw [h]; rfl)
                  have H7 : Hid (x2 = false → res = linksFrom ds ls (j + 1)) := fun h => H0.out (by rw [h]; rfl)
                  clear H5 H0
                  go_wp2_with fail
                  refine wp_region_held_drew (S := (fun w' => w'.cell? ⟨n1, 0, none⟩ = some (.int .i64 la) ∧ w'.cell? ⟨n1, 1, none⟩ = some (.int .i64 lp) ∧ w'.cell? ⟨n1, 2, none⟩ = some (.int .i64 lb) ∧ w'.cell? ⟨n1, 3, none⟩ = some (.int .i64 lq))) (by kernel_rfl) (EndS.cells (n1 := n1) (by assumption)) (fun hHeld => ?_)
                  refine' wpAnyH_take (i := 0) (v := _) rfl (by kernel_rfl) (by kernel_rfl) (by kernel_rfl) (fun _ _ _ h => h) (Or.inl ⟨by rfl, ?gy1⟩) (by assumption) ?gr1
                  case gy1 => (intro w hSw; (try dsimp only at hSw); go_simp; (try with_reducible rfl))
                  try simp only [List.getElem_toArray, List.getElem_cons_zero, Act.put, List.setIfInBounds_toArray, List.set_cons_zero, List.set_cons_succ]
                  refine' wpAnyH_take (i := 1) (v := _) rfl (by kernel_rfl) (by kernel_rfl) (by kernel_rfl) (fun _ _ _ h => h) (Or.inl ⟨by rfl, ?gy2⟩) (by assumption) ?gr2
                  case gy2 => (intro w hSw; (try dsimp only at hSw); go_simp; (try with_reducible rfl))
                  try simp only [List.getElem_toArray, List.getElem_cons_zero, List.getElem_cons_succ, Act.put, List.setIfInBounds_toArray, List.set_cons_zero, List.set_cons_succ]
                  refine' wpAnyH_take (i := 2) (v := _) rfl (by kernel_rfl) (by kernel_rfl) (by kernel_rfl) (fun _ _ _ h => h) (Or.inl ⟨by rfl, ?gy3⟩) (by assumption) ?gr3
                  case gy3 => (intro w hSw; (try dsimp only at hSw); go_simp; (try with_reducible rfl))
                  try simp only [List.getElem_toArray, List.getElem_cons_zero, List.getElem_cons_succ, Act.put, List.setIfInBounds_toArray, List.set_cons_zero, List.set_cons_succ]
                  refine' wpAnyH_take (i := 3) (v := _) rfl (by kernel_rfl) (by kernel_rfl) (by kernel_rfl) (fun _ _ _ h => h) (Or.inl ⟨by rfl, ?gy4⟩) (by assumption) ?gr4
                  case gy4 => (intro w hSw; (try dsimp only at hSw); go_simp; (try with_reducible rfl))
                  try simp only [List.getElem_toArray, List.getElem_cons_zero, List.getElem_cons_succ, Act.put, List.setIfInBounds_toArray, List.set_cons_zero, List.set_cons_succ]
                  refine' wpAnyH_take (i := 4) (v := _) rfl (by kernel_rfl) (by kernel_rfl) (by kernel_rfl) (fun _ _ _ h => h) (Or.inl ⟨by rfl, ?gy5⟩) (by assumption) ?gr5
                  case gy5 => (intro w hSw; (try dsimp only at hSw); go_simp; (try with_reducible rfl))
                  try simp only [List.getElem_toArray, List.getElem_cons_zero, List.getElem_cons_succ, Act.put, List.setIfInBounds_toArray, List.set_cons_zero, List.set_cons_succ]
                  refine' wpAnyH_take (i := 5) (v := _) rfl (by kernel_rfl) (by kernel_rfl) (by kernel_rfl) (fun _ _ _ h => h) (Or.inl ⟨by rfl, ?gy6⟩) (by assumption) ?gr6
                  case gy6 => (intro w hSw; (try dsimp only at hSw); go_simp; (try with_reducible rfl))
                  try simp only [List.getElem_toArray, List.getElem_cons_zero, List.getElem_cons_succ, Act.put, List.setIfInBounds_toArray, List.set_cons_zero, List.set_cons_succ]
                  refine' wpAnyH_take (i := 6) (v := _) rfl (by kernel_rfl) (by kernel_rfl) (by kernel_rfl) (fun _ _ _ h => h) (Or.inl ⟨by rfl, ?gy7⟩) (by assumption) ?gr7
                  case gy7 => (intro w hSw; (try dsimp only at hSw); go_simp; (try with_reducible rfl))
                  try simp only [List.getElem_toArray, List.getElem_cons_zero, List.getElem_cons_succ, Act.put, List.setIfInBounds_toArray, List.set_cons_zero, List.set_cons_succ]
                  refine' wpAnyH_take (i := 7) (v := _) rfl (by kernel_rfl) (by kernel_rfl) (by kernel_rfl) (fun _ _ _ h => h) (Or.inl ⟨by rfl, ?gy8⟩) (by assumption) ?gr8
                  case gy8 => (intro w hSw; (try dsimp only at hSw); go_simp; (try with_reducible rfl))
                  try simp only [List.getElem_toArray, List.getElem_cons_zero, List.getElem_cons_succ, Act.put, List.setIfInBounds_toArray, List.set_cons_zero, List.set_cons_succ]
                  refine' wpAnyH_take (i := 8) (v := _) rfl (by kernel_rfl) (by kernel_rfl) (by kernel_rfl) (fun _ _ _ h => h) (Or.inl ⟨by rfl, ?gy9⟩) (by assumption) ?gr9
                  case gy9 => (intro w hSw; (try dsimp only at hSw); go_simp; (try with_reducible rfl))
                  try simp only [List.getElem_toArray, List.getElem_cons_zero, List.getElem_cons_succ, Act.put, List.setIfInBounds_toArray, List.set_cons_zero, List.set_cons_succ]
                  refine' wpAnyH_take (i := 9) (v := _) rfl (by kernel_rfl) (by kernel_rfl) (by kernel_rfl) (fun _ _ _ h => h) (Or.inl ⟨by rfl, ?gy10⟩) (by assumption) ?gr10
                  case gy10 => (intro w hSw; (try dsimp only at hSw); go_simp; (try with_reducible rfl))
                  try simp only [List.getElem_toArray, List.getElem_cons_zero, List.getElem_cons_succ, Act.put, List.setIfInBounds_toArray, List.set_cons_zero, List.set_cons_succ]
                  refine' wpAnyH_take (i := 10) (v := _) rfl (by kernel_rfl) (by kernel_rfl) (by kernel_rfl) (fun _ _ _ h => h) (Or.inl ⟨by rfl, ?gy11⟩) (by assumption) ?gr11
                  case gy11 => (intro w hSw; (try dsimp only at hSw); go_simp; (try with_reducible rfl))
                  try simp only [List.getElem_toArray, List.getElem_cons_zero, List.getElem_cons_succ, Act.put, List.setIfInBounds_toArray, List.set_cons_zero, List.set_cons_succ]
                  refine' wpAnyH_take (i := 11) (v := _) rfl (by kernel_rfl) (by kernel_rfl) (by kernel_rfl) (fun _ _ _ h => h) (Or.inl ⟨by rfl, ?gy12⟩) (by assumption) ?gr12
                  case gy12 => (intro w hSw; (try dsimp only at hSw); go_simp; (try with_reducible rfl))
                  try simp only [List.getElem_toArray, List.getElem_cons_zero, List.getElem_cons_succ, Act.put, List.setIfInBounds_toArray, List.set_cons_zero, List.set_cons_succ]
                  refine wpAnyH_ready (rs := [12]) (by kernel_rfl) (by simp) (AllReadyH.cons rfl (fun K hK => ?_) AllReadyH.nil)
                  go_simp
                  refine (C1.out _ (by assumption)).mono ?_; rintro e wz ⟨rfl, hbz⟩; have Ez := EndS.keep (n1 := n1) (by assumption) hbz; clear hbz
                  try go_wp2_with fail
                  clear hHeld
                  refine hK.out _ _ (EndS.cells (n1 := n1) (by assumption)) (fun hHeld => ?_)
                  clear hK K
                  try simp only [List.getElem_toArray, List.getElem_cons_zero, List.getElem_cons_succ, Act.put, List.setIfInBounds_toArray, List.set_cons_zero, List.set_cons_succ]
                  refine' wpAnyH_take (i := 13) (v := _) rfl (by kernel_rfl) (by kernel_rfl) (by kernel_rfl) (fun _ _ _ h => h) (Or.inl ⟨by rfl, ?gy14⟩) (by assumption) ?gr14
                  case gy14 => (intro w hSw; (try dsimp only at hSw); go_simp; (try with_reducible rfl))
                  try simp only [List.getElem_toArray, List.getElem_cons_zero, List.getElem_cons_succ, Act.put, List.setIfInBounds_toArray, List.set_cons_zero, List.set_cons_succ]
                  refine' wpAnyH_take (i := 14) (v := _) rfl (by kernel_rfl) (by kernel_rfl) (by kernel_rfl) (fun _ _ _ h => h) (Or.inl ⟨by rfl, ?gy15⟩) (by assumption) ?gr15
                  case gy15 => (intro w hSw; (try dsimp only at hSw); go_simp; (try with_reducible rfl))
                  try simp only [List.getElem_toArray, List.getElem_cons_zero, List.getElem_cons_succ, Act.put, List.setIfInBounds_toArray, List.set_cons_zero, List.set_cons_succ]
                  refine' wpAnyH_take (i := 15) (v := _) rfl (by kernel_rfl) (by kernel_rfl) (by kernel_rfl) (fun _ _ _ h => h) (Or.inl ⟨by rfl, ?gy16⟩) (by assumption) ?gr16
                  case gy16 => (intro w hSw; (try dsimp only at hSw); go_simp; (try with_reducible rfl))
                  try simp only [List.getElem_toArray, List.getElem_cons_zero, List.getElem_cons_succ, Act.put, List.setIfInBounds_toArray, List.set_cons_zero, List.set_cons_succ]
                  refine' wpAnyH_take (i := 16) (v := _) rfl (by kernel_rfl) (by kernel_rfl) (by kernel_rfl) (fun _ _ _ h => h) (Or.inl ⟨by rfl, ?gy17⟩) (by assumption) ?gr17
                  case gy17 => (intro w hSw; (try dsimp only at hSw); go_simp; (try with_reducible rfl))
                  try simp only [List.getElem_toArray, List.getElem_cons_zero, List.getElem_cons_succ, Act.put, List.setIfInBounds_toArray, List.set_cons_zero, List.set_cons_succ]
                  refine' wpAnyH_take (i := 17) (v := _) rfl (by kernel_rfl) (by kernel_rfl) (by kernel_rfl) (fun _ _ _ h => h) (Or.inl ⟨by rfl, ?gy18⟩) (by assumption) ?gr18
                  case gy18 => (intro w hSw; (try dsimp only at hSw); go_simp; (try with_reducible rfl))
                  try simp only [List.getElem_toArray, List.getElem_cons_zero, List.getElem_cons_succ, Act.put, List.setIfInBounds_toArray, List.set_cons_zero, List.set_cons_succ]
                  refine' wpAnyH_take (i := 18) (v := _) rfl (by kernel_rfl) (by kernel_rfl) (by kernel_rfl) (fun _ _ _ h => h) (Or.inl ⟨by rfl, ?gy19⟩) (by assumption) ?gr19
                  case gy19 => (intro w hSw; (try dsimp only at hSw); go_simp; (try with_reducible rfl))
                  try simp only [List.getElem_toArray, List.getElem_cons_zero, List.getElem_cons_succ, Act.put, List.setIfInBounds_toArray, List.set_cons_zero, List.set_cons_succ]
                  refine wpAnyH_ready (rs := [19]) (by kernel_rfl) (by simp) (AllReadyH.cons rfl (fun K hK => ?_) AllReadyH.nil)
                  go_simp
                  refine (C2.out _ (by assumption)).mono ?_; rintro e wz ⟨rfl, hbz⟩; have Ez := EndS.keep (n1 := n1) (by assumption) hbz; clear hbz
                  try go_wp2_with fail
                  clear hHeld
                  refine hK.out _ _ (EndS.cells (n1 := n1) (by assumption)) (fun hHeld => ?_)
                  clear hK K
                  try simp only [List.getElem_toArray, List.getElem_cons_zero, List.getElem_cons_succ, Act.put, List.setIfInBounds_toArray, List.set_cons_zero, List.set_cons_succ]
                  refine' wpAnyH_take (i := 20) (v := _) rfl (by kernel_rfl) (by kernel_rfl) (by kernel_rfl) (fun _ _ _ h => h) (Or.inl ⟨by rfl, ?gy21⟩) (by assumption) ?gr21
                  case gy21 => (intro w hSw; (try dsimp only at hSw); go_simp; (try with_reducible rfl))
                  try simp only [List.getElem_toArray, List.getElem_cons_zero, List.getElem_cons_succ, Act.put, List.setIfInBounds_toArray, List.set_cons_zero, List.set_cons_succ]
                  refine wpAnyH_done (by kernel_rfl) ?_ _
                  cases x2
                  · have HV : Hid (res = linksFrom ds ls (j + 1)) := H7.out rfl
                    obtain ⟨v5, w5, r5, s5, D5, B5, O5⟩ := APP.out _ (by assumption)
                    rw [← HE.out] at O5
                    go_wp2_with (at_builtin; refine append_run2 rfl _ _ 77 rfl rfl rfl r5 ?_)
                    go_roundw
                    case rel => first | exact ⟨j + 1, by go_num, by omega, s5, D5, B5, O5, HV⟩ | ((repeat apply Exists.intro); exact ⟨⟨j + 1, by go_num, by omega, s5, D5, B5, O5, HV⟩, rfl⟩)
                    case measure => simp [intOf]; omega
                  · have HV : Hid (res = 5) := H6.out rfl
                    go_wp2_with fail
                    go_ret
                    exact ⟨by rw [HV.out]; rfl, EndS.below (by assumption)⟩
                · have HV : Hid (res = 5) := H5.out rfl
                  clear H5 H0
                  go_wp2_with fail
                  refine wp_region_held_drew (S := (fun w' => w'.cell? ⟨n1, 0, none⟩ = some (.int .i64 la) ∧ w'.cell? ⟨n1, 1, none⟩ = some (.int .i64 lp) ∧ w'.cell? ⟨n1, 2, none⟩ = some (.int .i64 lb) ∧ w'.cell? ⟨n1, 3, none⟩ = some (.int .i64 lq))) (by kernel_rfl) (EndS.cells (n1 := n1) (by assumption)) (fun hHeld => ?_)
                  refine' wpAnyH_take (i := 0) (v := _) rfl (by kernel_rfl) (by kernel_rfl) (by kernel_rfl) (fun _ _ _ h => h) (Or.inl ⟨by rfl, ?gy23⟩) (by assumption) ?gr23
                  case gy23 => (intro w hSw; (try dsimp only at hSw); go_simp; (try with_reducible rfl))
                  try simp only [List.getElem_toArray, List.getElem_cons_zero, Act.put, List.setIfInBounds_toArray, List.set_cons_zero, List.set_cons_succ]
                  refine' wpAnyH_take (i := 1) (v := _) rfl (by kernel_rfl) (by kernel_rfl) (by kernel_rfl) (fun _ _ _ h => h) (Or.inl ⟨by rfl, ?gy24⟩) (by assumption) ?gr24
                  case gy24 => (intro w hSw; (try dsimp only at hSw); go_simp; (try with_reducible rfl))
                  try simp only [List.getElem_toArray, List.getElem_cons_zero, List.getElem_cons_succ, Act.put, List.setIfInBounds_toArray, List.set_cons_zero, List.set_cons_succ]
                  refine' wpAnyH_take (i := 2) (v := _) rfl (by kernel_rfl) (by kernel_rfl) (by kernel_rfl) (fun _ _ _ h => h) (Or.inl ⟨by rfl, ?gy25⟩) (by assumption) ?gr25
                  case gy25 => (intro w hSw; (try dsimp only at hSw); go_simp; (try with_reducible rfl))
                  try simp only [List.getElem_toArray, List.getElem_cons_zero, List.getElem_cons_succ, Act.put, List.setIfInBounds_toArray, List.set_cons_zero, List.set_cons_succ]
                  refine' wpAnyH_take (i := 3) (v := _) rfl (by kernel_rfl) (by kernel_rfl) (by kernel_rfl) (fun _ _ _ h => h) (Or.inl ⟨by rfl, ?gy26⟩) (by assumption) ?gr26
                  case gy26 => (intro w hSw; (try dsimp only at hSw); go_simp; (try with_reducible rfl))
                  try simp only [List.getElem_toArray, List.getElem_cons_zero, List.getElem_cons_succ, Act.put, List.setIfInBounds_toArray, List.set_cons_zero, List.set_cons_succ]
                  refine' wpAnyH_take (i := 4) (v := _) rfl (by kernel_rfl) (by kernel_rfl) (by kernel_rfl) (fun _ _ _ h => h) (Or.inl ⟨by rfl, ?gy27⟩) (by assumption) ?gr27
                  case gy27 => (intro w hSw; (try dsimp only at hSw); go_simp; (try with_reducible rfl))
                  try simp only [List.getElem_toArray, List.getElem_cons_zero, List.getElem_cons_succ, Act.put, List.setIfInBounds_toArray, List.set_cons_zero, List.set_cons_succ]
                  refine' wpAnyH_take (i := 5) (v := _) rfl (by kernel_rfl) (by kernel_rfl) (by kernel_rfl) (fun _ _ _ h => h) (Or.inl ⟨by rfl, ?gy28⟩) (by assumption) ?gr28
                  case gy28 => (intro w hSw; (try dsimp only at hSw); go_simp; (try with_reducible rfl))
                  try simp only [List.getElem_toArray, List.getElem_cons_zero, List.getElem_cons_succ, Act.put, List.setIfInBounds_toArray, List.set_cons_zero, List.set_cons_succ]
                  refine' wpAnyH_take (i := 6) (v := _) rfl (by kernel_rfl) (by kernel_rfl) (by kernel_rfl) (fun _ _ _ h => h) (Or.inl ⟨by rfl, ?gy29⟩) (by assumption) ?gr29
                  case gy29 => (intro w hSw; (try dsimp only at hSw); go_simp; (try with_reducible rfl))
                  try simp only [List.getElem_toArray, List.getElem_cons_zero, List.getElem_cons_succ, Act.put, List.setIfInBounds_toArray, List.set_cons_zero, List.set_cons_succ]
                  refine' wpAnyH_take (i := 7) (v := _) rfl (by kernel_rfl) (by kernel_rfl) (by kernel_rfl) (fun _ _ _ h => h) (Or.inl ⟨by rfl, ?gy30⟩) (by assumption) ?gr30
                  case gy30 => (intro w hSw; (try dsimp only at hSw); go_simp; (try with_reducible rfl))
                  try simp only [List.getElem_toArray, List.getElem_cons_zero, List.getElem_cons_succ, Act.put, List.setIfInBounds_toArray, List.set_cons_zero, List.set_cons_succ]
                  refine' wpAnyH_take (i := 8) (v := _) rfl (by kernel_rfl) (by kernel_rfl) (by kernel_rfl) (fun _ _ _ h => h) (Or.inl ⟨by rfl, ?gy31⟩) (by assumption) ?gr31
                  case gy31 => (intro w hSw; (try dsimp only at hSw); go_simp; (try with_reducible rfl))
                  try simp only [List.getElem_toArray, List.getElem_cons_zero, List.getElem_cons_succ, Act.put, List.setIfInBounds_toArray, List.set_cons_zero, List.set_cons_succ]
                  refine' wpAnyH_take (i := 9) (v := _) rfl (by kernel_rfl) (by kernel_rfl) (by kernel_rfl) (fun _ _ _ h => h) (Or.inl ⟨by rfl, ?gy32⟩) (by assumption) ?gr32
                  case gy32 => (intro w hSw; (try dsimp only at hSw); go_simp; (try with_reducible rfl))
                  try simp only [List.getElem_toArray, List.getElem_cons_zero, List.getElem_cons_succ, Act.put, List.setIfInBounds_toArray, List.set_cons_zero, List.set_cons_succ]
                  refine' wpAnyH_take (i := 10) (v := _) rfl (by kernel_rfl) (by kernel_rfl) (by kernel_rfl) (fun _ _ _ h => h) (Or.inl ⟨by rfl, ?gy33⟩) (by assumption) ?gr33
                  case gy33 => (intro w hSw; (try dsimp only at hSw); go_simp; (try with_reducible rfl))
                  try simp only [List.getElem_toArray, List.getElem_cons_zero, List.getElem_cons_succ, Act.put, List.setIfInBounds_toArray, List.set_cons_zero, List.set_cons_succ]
                  refine' wpAnyH_take (i := 11) (v := _) rfl (by kernel_rfl) (by kernel_rfl) (by kernel_rfl) (fun _ _ _ h => h) (Or.inl ⟨by rfl, ?gy34⟩) (by assumption) ?gr34
                  case gy34 => (intro w hSw; (try dsimp only at hSw); go_simp; (try with_reducible rfl))
                  try simp only [List.getElem_toArray, List.getElem_cons_zero, List.getElem_cons_succ, Act.put, List.setIfInBounds_toArray, List.set_cons_zero, List.set_cons_succ]
                  refine wpAnyH_ready (rs := [12]) (by kernel_rfl) (by simp) (AllReadyH.cons rfl (fun K hK => ?_) AllReadyH.nil)
                  go_simp
                  refine (C1.out _ (by assumption)).mono ?_; rintro e wz ⟨rfl, hbz⟩; have Ez := EndS.keep (n1 := n1) (by assumption) hbz; clear hbz
                  try go_wp2_with fail
                  clear hHeld
                  refine hK.out _ _ (EndS.cells (n1 := n1) (by assumption)) (fun hHeld => ?_)
                  clear hK K
                  try simp only [List.getElem_toArray, List.getElem_cons_zero, List.getElem_cons_succ, Act.put, List.setIfInBounds_toArray, List.set_cons_zero, List.set_cons_succ]
                  refine' wpAnyH_take (i := 13) (v := _) rfl (by kernel_rfl) (by kernel_rfl) (by kernel_rfl) (fun _ _ _ h => h) (Or.inl ⟨by rfl, ?gy36⟩) (by assumption) ?gr36
                  case gy36 => (intro w hSw; (try dsimp only at hSw); go_simp; (try with_reducible rfl))
                  try simp only [List.getElem_toArray, List.getElem_cons_zero, List.getElem_cons_succ, Act.put, List.setIfInBounds_toArray, List.set_cons_zero, List.set_cons_succ]
                  refine' wpAnyH_take (i := 14) (v := _) rfl (by kernel_rfl) (by kernel_rfl) (by kernel_rfl) (fun _ _ _ h => h) (Or.inl ⟨by rfl, ?gy37⟩) (by assumption) ?gr37
                  case gy37 => (intro w hSw; (try dsimp only at hSw); go_simp; (try with_reducible rfl))
                  try simp only [List.getElem_toArray, List.getElem_cons_zero, List.getElem_cons_succ, Act.put, List.setIfInBounds_toArray, List.set_cons_zero, List.set_cons_succ]
                  refine' wpAnyH_take (i := 15) (v := undef) rfl (by kernel_rfl) (by kernel_rfl) (by kernel_rfl) (fun _ _ _ h => h) (Or.inr ⟨by rfl, rfl⟩) (by assumption) ?gr38
                  try simp only [List.getElem_toArray, List.getElem_cons_zero, List.getElem_cons_succ, Act.put, List.setIfInBounds_toArray, List.set_cons_zero, List.set_cons_succ]
                  refine' wpAnyH_take (i := 16) (v := undef) rfl (by kernel_rfl) (by kernel_rfl) (by kernel_rfl) (fun _ _ _ h => h) (Or.inr ⟨by rfl, rfl⟩) (by assumption) ?gr39
                  try simp only [List.getElem_toArray, List.getElem_cons_zero, List.getElem_cons_succ, Act.put, List.setIfInBounds_toArray, List.set_cons_zero, List.set_cons_succ]
                  refine' wpAnyH_take (i := 17) (v := undef) rfl (by kernel_rfl) (by kernel_rfl) (by kernel_rfl) (fun _ _ _ h => h) (Or.inr ⟨by rfl, rfl⟩) (by assumption) ?gr40
                  try simp only [List.getElem_toArray, List.getElem_cons_zero, List.getElem_cons_succ, Act.put, List.setIfInBounds_toArray, List.set_cons_zero, List.set_cons_succ]
                  refine' wpAnyH_take (i := 18) (v := undef) rfl (by kernel_rfl) (by kernel_rfl) (by kernel_rfl) (fun _ _ _ h => h) (Or.inr ⟨by rfl, rfl⟩) (by assumption) ?gr41
                  try simp only [List.getElem_toArray, List.getElem_cons_zero, List.getElem_cons_succ, Act.put, List.setIfInBounds_toArray, List.set_cons_zero, List.set_cons_succ]
                  refine' wpAnyH_take (i := 19) (v := undef) rfl (by kernel_rfl) (by kernel_rfl) (by kernel_rfl) (fun _ _ _ h => h) (Or.inr ⟨by rfl, rfl⟩) (by assumption) ?gr42
                  try simp only [List.getElem_toArray, List.getElem_cons_zero, List.getElem_cons_succ, Act.put, List.setIfInBounds_toArray, List.set_cons_zero, List.set_cons_succ]
                  refine' wpAnyH_take (i := 20) (v := _) rfl (by kernel_rfl) (by kernel_rfl) (by kernel_rfl) (fun _ _ _ h => h) (Or.inl ⟨by rfl, ?gy43⟩) (by assumption) ?gr43
                  case gy43 => (intro w hSw; (try dsimp only at hSw); go_simp; (try with_reducible rfl))
                  try simp only [List.getElem_toArray, List.getElem_cons_zero, List.getElem_cons_succ, Act.put, List.setIfInBounds_toArray, List.set_cons_zero, List.set_cons_succ]
                  refine wpAnyH_done (by kernel_rfl) ?_ _
                  go_wp2_with fail
                  go_ret
                  exact ⟨by rw [HV.out]; rfl, EndS.below (by assumption)⟩
              · have HV : Hid (res = 5) := H5.out rfl
                clear H5 H0
                go_wp2_with fail
                refine wp_region_held_drew (S := (fun w' => w'.cell? ⟨n1, 0, none⟩ = some (.int .i64 la) ∧ w'.cell? ⟨n1, 1, none⟩ = some (.int .i64 lp) ∧ w'.cell? ⟨n1, 2, none⟩ = some (.int .i64 lb) ∧ w'.cell? ⟨n1, 3, none⟩ = some (.int .i64 lq))) (by kernel_rfl) (EndS.cells (n1 := n1) (by assumption)) (fun hHeld => ?_)
                refine' wpAnyH_take (i := 0) (v := _) rfl (by kernel_rfl) (by kernel_rfl) (by kernel_rfl) (fun _ _ _ h => h) (Or.inl ⟨by rfl, ?gy45⟩) (by assumption) ?gr45
                case gy45 => (intro w hSw; (try dsimp only at hSw); go_simp; (try with_reducible rfl))
                try simp only [List.getElem_toArray, List.getElem_cons_zero, Act.put, List.setIfInBounds_toArray, List.set_cons_zero, List.set_cons_succ]
                refine' wpAnyH_take (i := 1) (v := _) rfl (by kernel_rfl) (by kernel_rfl) (by kernel_rfl) (fun _ _ _ h => h) (Or.inl ⟨by rfl, ?gy46⟩) (by assumption) ?gr46
                case gy46 => (intro w hSw; (try dsimp only at hSw); go_simp; (try with_reducible rfl))
                try simp only [List.getElem_toArray, List.getElem_cons_zero, List.getElem_cons_succ, Act.put, List.setIfInBounds_toArray, List.set_cons_zero, List.set_cons_succ]
                refine' wpAnyH_take (i := 2) (v := _) rfl (by kernel_rfl) (by kernel_rfl) (by kernel_rfl) (fun _ _ _ h => h) (Or.inl ⟨by rfl, ?gy47⟩) (by assumption) ?gr47
                case gy47 => (intro w hSw; (try dsimp only at hSw); go_simp; (try with_reducible rfl))
                try simp only [List.getElem_toArray, List.getElem_cons_zero, List.getElem_cons_succ, Act.put, List.setIfInBounds_toArray, List.set_cons_zero, List.set_cons_succ]
                refine' wpAnyH_take (i := 3) (v := _) rfl (by kernel_rfl) (by kernel_rfl) (by kernel_rfl) (fun _ _ _ h => h) (Or.inl ⟨by rfl, ?gy48⟩) (by assumption) ?gr48
                case gy48 => (intro w hSw; (try dsimp only at hSw); go_simp; (try with_reducible rfl))
                try simp only [List.getElem_toArray, List.getElem_cons_zero, List.getElem_cons_succ, Act.put, List.setIfInBounds_toArray, List.set_cons_zero, List.set_cons_succ]
                refine' wpAnyH_take (i := 4) (v := _) rfl (by kernel_rfl) (by kernel_rfl) (by kernel_rfl) (fun _ _ _ h => h) (Or.inl ⟨by rfl, ?gy49⟩) (by assumption) ?gr49
                case gy49 => (intro w hSw; (try dsimp only at hSw); go_simp; (try with_reducible rfl))
                try simp only [List.getElem_toArray, List.getElem_cons_zero, List.getElem_cons_succ, Act.put, List.setIfInBounds_toArray, List.set_cons_zero, List.set_cons_succ]
                refine' wpAnyH_take (i := 5) (v := _) rfl (by kernel_rfl) (by kernel_rfl) (by kernel_rfl) (fun _ _ _ h => h) (Or.inl ⟨by rfl, ?gy50⟩) (by assumption) ?gr50
                case gy50 => (intro w hSw; (try dsimp only at hSw); go_simp; (try with_reducible rfl))
                try simp only [List.getElem_toArray, List.getElem_cons_zero, List.getElem_cons_succ, Act.put, List.setIfInBounds_toArray, List.set_cons_zero, List.set_cons_succ]
                refine' wpAnyH_take (i := 6) (v := _) rfl (by kernel_rfl) (by kernel_rfl) (by kernel_rfl) (fun _ _ _ h => h) (Or.inl ⟨by rfl, ?gy51⟩) (by assumption) ?gr51
                case gy51 => (intro w hSw; (try dsimp only at hSw); go_simp; (try with_reducible rfl))
                try simp only [List.getElem_toArray, List.getElem_cons_zero, List.getElem_cons_succ, Act.put, List.setIfInBounds_toArray, List.set_cons_zero, List.set_cons_succ]
                refine' wpAnyH_take (i := 7) (v := _) rfl (by kernel_rfl) (by kernel_rfl) (by kernel_rfl) (fun _ _ _ h => h) (Or.inl ⟨by rfl, ?gy52⟩) (by assumption) ?gr52
                case gy52 => (intro w hSw; (try dsimp only at hSw); go_simp; (try with_reducible rfl))
                try simp only [List.getElem_toArray, List.getElem_cons_zero, List.getElem_cons_succ, Act.put, List.setIfInBounds_toArray, List.set_cons_zero, List.set_cons_succ]
                refine' wpAnyH_take (i := 8) (v := undef) rfl (by kernel_rfl) (by kernel_rfl) (by kernel_rfl) (fun _ _ _ h => h) (Or.inr ⟨by rfl, rfl⟩) (by assumption) ?gr53
                try simp only [List.getElem_toArray, List.getElem_cons_zero, List.getElem_cons_succ, Act.put, List.setIfInBounds_toArray, List.set_cons_zero, List.set_cons_succ]
                refine' wpAnyH_take (i := 9) (v := undef) rfl (by kernel_rfl) (by kernel_rfl) (by kernel_rfl) (fun _ _ _ h => h) (Or.inr ⟨by rfl, rfl⟩) (by assumption) ?gr54
                try simp only [List.getElem_toArray, List.getElem_cons_zero, List.getElem_cons_succ, Act.put, List.setIfInBounds_toArray, List.set_cons_zero, List.set_cons_succ]
                refine' wpAnyH_take (i := 10) (v := undef) rfl (by kernel_rfl) (by kernel_rfl) (by kernel_rfl) (fun _ _ _ h => h) (Or.inr ⟨by rfl, rfl⟩) (by assumption) ?gr55
                try simp only [List.getElem_toArray, List.getElem_cons_zero, List.getElem_cons_succ, Act.put, List.setIfInBounds_toArray, List.set_cons_zero, List.set_cons_succ]
                refine' wpAnyH_take (i := 11) (v := undef) rfl (by kernel_rfl) (by kernel_rfl) (by kernel_rfl) (fun _ _ _ h => h) (Or.inr ⟨by rfl, rfl⟩) (by assumption) ?gr56
                try simp only [List.getElem_toArray, List.getElem_cons_zero, List.getElem_cons_succ, Act.put, List.setIfInBounds_toArray, List.set_cons_zero, List.set_cons_succ]
                refine' wpAnyH_take (i := 12) (v := undef) rfl (by kernel_rfl) (by kernel_rfl) (by kernel_rfl) (fun _ _ _ h => h) (Or.inr ⟨by rfl, rfl⟩) (by assumption) ?gr57
                try simp only [List.getElem_toArray, List.getElem_cons_zero, List.getElem_cons_succ, Act.put, List.setIfInBounds_toArray, List.set_cons_zero, List.set_cons_succ]
                refine' wpAnyH_take (i := 13) (v := _) rfl (by kernel_rfl) (by kernel_rfl) (by kernel_rfl) (fun _ _ _ h => h) (Or.inl ⟨by rfl, ?gy58⟩) (by assumption) ?gr58
                case gy58 => (intro w hSw; (try dsimp only at hSw); go_simp; (try with_reducible rfl))
                try simp only [List.getElem_toArray, List.getElem_cons_zero, List.getElem_cons_succ, Act.put, List.setIfInBounds_toArray, List.set_cons_zero, List.set_cons_succ]
                refine' wpAnyH_take (i := 14) (v := _) rfl (by kernel_rfl) (by kernel_rfl) (by kernel_rfl) (fun _ _ _ h => h) (Or.inl ⟨by rfl, ?gy59⟩) (by assumption) ?gr59
                case gy59 => (intro w hSw; (try dsimp only at hSw); go_simp; (try with_reducible rfl))
                try simp only [List.getElem_toArray, List.getElem_cons_zero, List.getElem_cons_succ, Act.put, List.setIfInBounds_toArray, List.set_cons_zero, List.set_cons_succ]
                refine' wpAnyH_take (i := 15) (v := undef) rfl (by kernel_rfl) (by kernel_rfl) (by kernel_rfl) (fun _ _ _ h => h) (Or.inr ⟨by rfl, rfl⟩) (by assumption) ?gr60
                try simp only [List.getElem_toArray, List.getElem_cons_zero, List.getElem_cons_succ, Act.put, List.setIfInBounds_toArray, List.set_cons_zero, List.set_cons_succ]
                refine' wpAnyH_take (i := 16) (v := undef) rfl (by kernel_rfl) (by kernel_rfl) (by kernel_rfl) (fun _ _ _ h => h) (Or.inr ⟨by rfl, rfl⟩) (by assumption) ?gr61
                try simp only [List.getElem_toArray, List.getElem_cons_zero, List.getElem_cons_succ, Act.put, List.setIfInBounds_toArray, List.set_cons_zero, List.set_cons_succ]
                refine' wpAnyH_take (i := 17) (v := undef) rfl (by kernel_rfl) (by kernel_rfl) (by kernel_rfl) (fun _ _ _ h => h) (Or.inr ⟨by rfl, rfl⟩) (by assumption) ?gr62
                try simp only [List.getElem_toArray, List.getElem_cons_zero, List.getElem_cons_succ, Act.put, List.setIfInBounds_toArray, List.set_cons_zero, List.set_cons_succ]
                refine' wpAnyH_take (i := 18) (v := undef) rfl (by kernel_rfl) (by kernel_rfl) (by kernel_rfl) (fun _ _ _ h => h) (Or.inr ⟨by rfl, rfl⟩) (by assumption) ?gr63
                try simp only [List.getElem_toArray, List.getElem_cons_zero, List.getElem_cons_succ, Act.put, List.setIfInBounds_toArray, List.set_cons_zero, List.set_cons_succ]
                refine' wpAnyH_take (i := 19) (v := undef) rfl (by kernel_rfl) (by kernel_rfl) (by kernel_rfl) (fun _ _ _ h => h) (Or.inr ⟨by rfl, rfl⟩) (by assumption) ?gr64
                try simp only [List.getElem_toArray, List.getElem_cons_zero, List.getElem_cons_succ, Act.put, List.setIfInBounds_toArray, List.set_cons_zero, List.set_cons_succ]
                refine' wpAnyH_take (i := 20) (v := _) rfl (by kernel_rfl) (by kernel_rfl) (by kernel_rfl) (fun _ _ _ h => h) (Or.inl ⟨by rfl, ?gy65⟩) (by assumption) ?gr65
                case gy65 => (intro w hSw; (try dsimp only at hSw); go_simp; (try with_reducible rfl))
                try simp only [List.getElem_toArray, List.getElem_cons_zero, List.getElem_cons_succ, Act.put, List.setIfInBounds_toArray, List.set_cons_zero, List.set_cons_succ]
                refine wpAnyH_done (by kernel_rfl) ?_ _
                go_wp2_with fail
                go_ret
                exact ⟨by rw [HV.out]; rfl, EndS.below (by assumption)⟩
        · have HV : Hid (res = 0) := by
            show _ = _
            rw [hl.out, linksFrom_end (by omega)]
          go_wp2_with fail
          go_ret
          exact ⟨by rw [HV.out]; rfl, D1⟩
end Go.Proofs.YtnkgjkoncglfjaaGreatDoor


