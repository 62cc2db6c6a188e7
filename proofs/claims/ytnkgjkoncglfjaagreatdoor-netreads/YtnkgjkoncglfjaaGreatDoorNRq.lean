/-
  NetReads: the document's answer: ReadNet.
-/
import Derived.Test.YtnkgjkoncglfjaaGreatDoorZO
namespace Go.Proofs.YtnkgjkoncglfjaaGreatDoor
open Go.RowKit

theorem linesP_end {k : Nat} {ds : List Dv} {ls : List Lk} {L : List (List UInt8)} (hne : L ≠ []) : linesP k ds ls (L.drop (linesN L)) = .inr (ds, ls) := by
  unfold linesN
  split
  · rename_i h
    obtain ⟨ys, x, rfl⟩ := (List.eq_nil_or_concat L).resolve_left hne
    rw [List.concat_eq_append] at *
    simp only [List.getLast?_concat, Option.some.injEq] at h
    subst h
    simp [linesP]
  · rw [List.drop_length, linesP]
theorem linesN_le (L : List (List UInt8)) : linesN L ≤ L.length := by
  unfold linesN
  split <;> omega
theorem drop_cons {L : List (List UInt8)} {k : Nat} {x : List UInt8} (h : L[k]? = some x) : L.drop k = x :: L.drop (k + 1) := by
  obtain ⟨hk, e⟩ := List.getElem?_eq_some_iff.1 h
  rw [List.drop_eq_getElem_cons hk, e]
set_option maxHeartbeats 1000000 in
theorem rdnet_big (s : ByteArray) (w : World) (h : 4096 < s.size) : Calls Tryz.prog 5 #[.string s] w fun e w' => ParseOut w (([], []), 0, 2) e w' := by
  have hb1 : (4096 : Int) < (s.size : Int) := by omega
  have P0 := pair_new w (.slice none 0 0) (.slice none 0 0) 25
  have D0 := Below.alloc' (Below.refl w.heap.size w) (.cells #[.slice none 0 0, .slice none 0 0] 25)
  go_enter Tryz.func5, Tryz.ntmps5
  generalize hW : w.alloc (.cells #[.slice none 0 0, .slice none 0 0] 25) = w1 at *
  obtain ⟨l0, ⟨k0, k1⟩, f0, f1⟩ := P0
  go_wp2_with fail
  exact bodyPost_ret (v := .tuple #[.agg #[.slice none 0 0, .slice none 0 0], .int .i64 0, .int .i64 2]) (by simp [results, Tryz.results5, go_sem, k0, k1]) rfl ⟨below_set2 D0 (Nat.le_refl _) _ _, _, _, rfl, nil_slAt _ _ _ _, nil_slAt _ _ _ _⟩
theorem lineN_calls {F : Nat} {args : Array Value} {B rb : Nat} {w : World} {o : Option (List Dv × List Lk)} (K : Calls Tryz.prog F args w fun e w' => LineN B rb w o e w') : Hid (Calls Tryz.prog F args w fun e w' => ∃ b, e = .returned (.bool b) ∧ Hid (LineN B rb w o (.returned (.bool b)) w')) := by
  refine Calls.mono K fun e w' h => ?_
  have h2 := h
  obtain ⟨_, h3⟩ := h2
  match o, h, h3 with
  | none, h, h3 =>
    subst h3
    exact ⟨false, rfl, h⟩
  | some (ds, ls), h, h3 =>
    obtain ⟨rfl, _⟩ := h3
    exact ⟨true, rfl, h⟩
set_option maxHeartbeats 8000000 in
set_option maxRecDepth 100000 in
theorem rdnet_lines (s : ByteArray) (w : World) (h : s.size ≤ 4096) : Calls Tryz.prog 5 #[.string s] w fun e w' => ParseOut w (netP s.data.toList) e w' := by
  have hb1 : ¬ (4096 : Int) < (s.size : Int) := by omega
  have P0 := pair_new w (.slice none 0 0) (.slice none 0 0) 25
  have D0 := Below.alloc' (Below.refl w.heap.size w) (.cells #[.slice none 0 0, .slice none 0 0] 25)
  have LN : Hid (∀ w, Calls Tryz.prog 10 #[.string s] w fun e w' => LnOut w s e w') := fun w => lines_any s w h
  have HN : Hid (netP s.data.toList = netO (linesP 1 [] [] (Mt.spl 10 s.data.toList))) := by
    show _ = _
    rw [netP_eq _ (by rw [← Lib.size_eq]; exact h), textP_lines _ _ _ _ _ (Nat.lt_succ_self _)]
  obtain ⟨l0, lt, hL0⟩ := Mt.spl_ne 10 s.data.toList
  have hLne : Mt.spl 10 s.data.toList ≠ [] := by rw [hL0]; simp
  clear hL0
  go_enter Tryz.func5, Tryz.ntmps5
  go_wp2_with fail
  refine (LN.out _).mono ?_
  rintro e w1 ⟨g, cap, cs, xs, rfl, hcap, hcm, hpos, hl, hx, HP, hg, T1, hb1'⟩
  have D1 := D0.trans (hb1'.mono D0.size)
  have P1 := pairB hb1' P0.1 P0
  have N1 : Blk w1 w.heap.size #[.slice none 0 0, .slice none 0 0] 25 := (blk_new w _ _).keep hb1'
  clear hb1' P0 D0 LN hg
  unfold maxLen at hcm
  have hlen : xs.length = (Mt.spl 10 s.data.toList).length := by rw [← hx.out, List.length_map]
  have HXS : Hid (∀ (j : Nat) x, xs[j]? = some x → (Mt.spl 10 s.data.toList)[j]? = some x.data.toList) := fun j x hj => by rw [← hx.out, List.getElem?_map, hj]; rfl
  have hNle := linesN_le (Mt.spl 10 s.data.toList)
  have HEND : Hid (∀ k ds ls, linesP k ds ls ((Mt.spl 10 s.data.toList).drop (linesN (Mt.spl 10 s.data.toList))) = .inr (ds, ls)) := fun k ds ls => linesP_end hLne
  have hNw : (decide ((Mt.spl 10 s.data.toList).getLast? = some []) = true ∧ linesN (Mt.spl 10 s.data.toList) + 1 = xs.length) ∨ (decide ((Mt.spl 10 s.data.toList).getLast? = some []) = false ∧ linesN (Mt.spl 10 s.data.toList) = xs.length ∧ ∃ x, (Mt.spl 10 s.data.toList)[linesN (Mt.spl 10 s.data.toList) - 1]? = some x ∧ x ≠ []) := by
    unfold linesN
    by_cases hw : (Mt.spl 10 s.data.toList).getLast? = some []
    · exact .inl ⟨by simp [hw], by rw [if_pos hw]; omega⟩
    · refine .inr ⟨by simp [hw], by rw [if_neg hw]; omega, ?_⟩
      rw [if_neg hw, ← List.getLast?_eq_getElem?]
      cases hq : (Mt.spl 10 s.data.toList).getLast? with
      | none => exact absurd (List.getLast?_eq_none_iff.1 hq) hLne
      | some x => exact ⟨x, rfl, fun e => hw (by rw [hq, e])⟩
  generalize decide ((Mt.spl 10 s.data.toList).getLast? = some []) = whole at *
  generalize hN : linesN (Mt.spl 10 s.data.toList) = N at *
  generalize Mt.spl 10 s.data.toList = L at *
  have D2 := D1.alloc D1.size (.cells #[.slice none 0 0, .slice none 0 0] 25)
  have N2 : Hid (Blk (w1.alloc (.cells #[.slice none 0 0, .slice none 0 0] 25)) w.heap.size #[.slice none 0 0, .slice none 0 0] 25) := N1.alloc _
  have P2 := allocPair P1 (.cells #[.slice none 0 0, .slice none 0 0] 25)
  have T2 := T1.below ((Below.refl _ w1).alloc (Nat.le_refl _) (.cells #[.slice none 0 0, .slice none 0 0] 25))
  have X0 := blk_new w1 #[.slice none 0 0, .slice none 0 0] 25
  have R0 : RdN w1.heap.size w1.heap.size (w1.alloc (.cells #[.slice none 0 0, .slice none 0 0] 25)) [] [] := ⟨[], _, _, rfl, Nat.le_refl _, X0, RdOk.start _ _⟩
  have hrz : w.heap.size < w1.heap.size := P1.1
  have hgl : g < w1.heap.size := T1.1.lt
  clear X0 T1 P1 D1 N1
  go_wp2_with fail
  generalize hrb : w1.heap.size = rb at *
  have hB2 : rb ≤ (w1.alloc (.cells #[.slice none 0 0, .slice none 0 0] 25)).heap.size := by simp; omega
  generalize w1.alloc (.cells #[.slice none 0 0, .slice none 0 0] 25) = w2 at *
  clear hrb hx hN hLne
  go_loopw [8] (fun i wr => ∃ (k : Nat) (ds : List Dv) (ls : List Lk), i = .int .i64 (k : Int) ∧ k ≤ N ∧ Few k ds ls ∧ Hid (linesP 1 [] [] L = linesP (k + 1) ds ls (L.drop k)) ∧ Hid (RdN rb rb wr ds ls) ∧ Below rb w2 wr) (fun i _ => N - (intOf i).toNat)
  case atStart => exact ⟨0, [], [], rfl, Nat.zero_le _, ⟨by simp, by simp, by simp, by simp⟩, rfl, R0, Below.refl _ _⟩
  case round =>
    obtain ⟨k, ds, ls, rfl, hk, Fw, HT, Rr, hbw⟩ := hrel
    have P3 := pairB hbw hrz P2
    have D3 : Below w.heap.size w wr := D2.trans (hbw.mono (by omega))
    have T3 : Wds wr g cs xs := ⟨(hbw.block _ hgl).trans T2.1, T2.2⟩
    by_cases hlt : k < N
    · obtain ⟨x, hxk⟩ : ∃ x, xs[k]? = some x := ⟨xs[k], List.getElem?_eq_getElem (by omega)⟩
      have hxs := HP.out x (List.mem_of_getElem? hxk)
      have hLk := HXS.out k x hxk
      have hdrop := drop_cons hLk
      have k2 : (k : Int) < (N : Int) := by omega
      have lc := T3.cell k x hxk
      have lastC : (whole = false ∧ k + 1 = N) ∨ ((whole = true ∨ ¬ k + 1 = N) ∧ L.drop (k + 1) ≠ []) := by
        rcases hNw with ⟨hw, hN1⟩ | ⟨hw, hN1, _⟩
        · exact .inr ⟨.inl hw, fun e => by have := List.drop_eq_nil_iff.1 e; omega⟩
        · by_cases he : k + 1 = N
          · exact .inl ⟨hw, he⟩
          · exact .inr ⟨.inr he, fun e => by have := List.drop_eq_nil_iff.1 e; omega⟩
      rcases lastC with ⟨rfl, he⟩ | ⟨hwk, hdne⟩
      · have HW : Hid (netP s.data.toList = (([], []), k + 1, 3)) := by
          show _ = _
          rcases hNw with ⟨hw, _⟩ | ⟨_, hN1, y, hy, hy0⟩
          · cases hw
          · rw [HN.out, HT.out, hdrop, List.drop_of_length_le (by omega)]
            have e : k = N - 1 := by omega
            rw [← e, hLk] at hy
            obtain rfl := Option.some.inj hy
            rw [linesP, if_neg hy0]
            rfl
        have e1 : ((k : Int) == (N : Int) - 1) = true := by simp; omega
        have e2 : (k : Int) = (N : Int) - 1 := by omega
        clear HN HT Rr T3 lc hdrop hLk hNw HEND HXS Fw
        obtain ⟨l0, ⟨k0, k1⟩, f0, f1⟩ := P3
        go_wp2_with fail
        refine bodyPost_ret (v := .tuple #[.agg #[.slice none 0 0, .slice none 0 0], .int .i64 (N : Int), .int .i64 3]) (by simp [results, Tryz.results5, go_sem, k0, k1]) rfl ⟨below_set2 D3 (Nat.le_refl _) _ _, ?_⟩
        rw [HW.out]
        exact ⟨_, _, by rw [← he], nil_slAt _ _ _ _, nil_slAt _ _ _ _⟩
      · have hfew := Fw
        have PC : Hid (∀ w, Calls Tryz.prog 12 #[.string x, .int .u8 32] w fun e w' => PcOut w 32 x e w') := fun w => words_any x 32 w (by omega)
        have NLC : Hid (∀ W (g2 c2 : Nat) (cs2 : Array Value) (ws : List ByteArray), Below wr.heap.size wr W → Wds W g2 cs2 ws → 0 < ws.length → ws.length ≤ 4097 → ws.length ≤ c2 → c2 ≤ maxLen → (∀ y ∈ ws, y.size ≤ x.size) → ws.map (·.data.toList) = Mt.spl 32 x.data.toList → Hid (Calls Tryz.prog 11 #[.pointer (some ⟨rb, 0, none⟩), .slice (some ⟨g2, 0, none⟩) ws.length c2] W fun e w' => ∃ b, e = .returned (.bool b) ∧ Hid (LineN rb rb W (lineP ds ls (Mt.spl 32 x.data.toList)) (.returned (.bool b)) w'))) := fun W g2 c2 cs2 ws hb G2 h1 h2 h3 h4 h5 h6 => by
          have hj := join_bound 32 x.data.toList
          obtain ⟨y0, yt, hy⟩ := Mt.spl_ne 32 x.data.toList
          have hj2 := hj y0 yt hy
          rw [← Lib.size_eq] at hj2
          have := netLine_any rb rb g2 c2 ds ls ws cs2 W (Nat.le_trans hB2 (Nat.le_trans hbw.size hb.size)) (Rr.out.below hb) (by have := Fw.devs; omega) (by have := Fw.links; omega) (fun d hd => by have := Fw.rules d hd; omega) (fun d hd => by have := Fw.routes d hd; omega) G2 h1 h2 h3 h4 (fun y hy => by have := h5 y hy; omega) (by rw [h6, hy]; simp only [List.drop_one, List.tail_cons]; omega)
          rw [h6] at this
          exact lineN_calls this
        have hd2 : (whole = true) ∨ (whole = false ∧ ((k : Int) == (N : Int) - 1) = false ∧ ¬ (k : Int) = (N : Int) - 1) := by
          rcases hwk with hwk | hwk
          · exact .inl hwk
          · cases whole
            · exact .inr ⟨rfl, by simp; omega, by omega⟩
            · exact .inl rfl
        rcases ho : lineP ds ls (Mt.spl 32 x.data.toList) with _ | ⟨ds', ls'⟩
        · have HW : Hid (netP s.data.toList = (([], []), k + 1, 3)) := by show _ = _; rw [HN.out, HT.out, hdrop, linesP_bad hdne ho]; rfl
          rw [ho] at NLC
          clear HN HT Rr T3 hdrop hLk hNw HEND HXS Fw hfew hwk hdne ho
          have E : Hid (∀ W, Below rb wr W → ParseOut w (netP s.data.toList) (.returned (.tuple #[.agg #[.slice none 0 0, .slice none 0 0], .int .i64 ((k : Int) + 1), .int .i64 3])) ((W.setCell ⟨w.heap.size, 0, none⟩ (.slice none 0 0)).setCell ⟨w.heap.size, 1, none⟩ (.slice none 0 0))) := fun W hb => by
            refine ⟨below_set2 (D3.trans (hb.mono (by omega))) (Nat.le_refl _) _ _, ?_⟩
            rw [HW.out]
            exact ⟨_, _, by simp, nil_slAt _ _ _ _, nil_slAt _ _ _ _⟩
          have PK : Hid (∀ W, Below rb wr W → Pair W w.heap.size (.slice none 0 0) (.slice none 0 0)) := fun W hb => pairB hb hrz P3
          clear P3 D3 HW
          have hck : (whole = true ∧ ((k : Int) == (N : Int) - 1) = true ∧ k + 1 = N) ∨ (((k : Int) == (N : Int) - 1) = false ∧ ¬ (k : Int) = (N : Int) - 1) := by
            rcases hd2 with h1 | ⟨_, h2, h3⟩
            · by_cases h4 : k + 1 = N
              · exact .inl ⟨h1, by simp; omega, h4⟩
              · exact .inr ⟨by simp; omega, by omega⟩
            · exact .inr ⟨h2, h3⟩
          clear hd2
          rcases hck with ⟨rfl, e1, he⟩ | ⟨e1, e2⟩
          all_goals
            go_wp2_with fail
            refine (PC.out _).mono ?_
            rintro e w3 ⟨g2, c2, cs2, ws, rfl, h1, h2, h3, h4, h5, h6, h7, G2, hb3⟩
            have RM := NLC.out w3 g2 c2 cs2 ws hb3 G2 h3 h4 h1 h2 h6.out h5.out
            have B3 : Below rb wr w3 := hb3.mono (Nat.le_trans hB2 hbw.size)
            clear hb3 G2 h5 h6 h7 PC NLC lc
            go_wp2_with fail
            refine Calls.mono RM.out ?_
            rintro e w4 ⟨bo, rfl, h4'⟩
            obtain ⟨hb4, h5'⟩ := h4'.out
            have h6' : Value.bool bo = Value.bool false := by simpa using h5'
            obtain rfl : bo = false := by simpa using h6'
            have B4 := B3.trans hb4
            have F := E.out w4 B4
            obtain ⟨l0, ⟨k0, k1⟩, f0, f1⟩ := PK.out w4 B4
            clear h4' h5' h6' hb4 RM B3 B4 E PK
            go_wp2_with fail
            exact bodyPost_ret (v := .tuple #[.agg #[.slice none 0 0, .slice none 0 0], .int .i64 ((k : Int) + 1), .int .i64 3]) (by simp [results, Tryz.results5, go_sem, k0, k1]) rfl F
        · have hck : (whole = true ∧ ((k : Int) == (N : Int) - 1) = true ∧ k + 1 = N) ∨ (((k : Int) == (N : Int) - 1) = false ∧ ¬ (k : Int) = (N : Int) - 1) := by
            rcases hd2 with h1 | ⟨_, h2, h3⟩
            · by_cases h4 : k + 1 = N
              · exact .inl ⟨h1, by simp; omega, h4⟩
              · exact .inr ⟨by simp; omega, by omega⟩
            · exact .inr ⟨h2, h3⟩
          have HW : Hid (linesP 1 [] [] L = linesP (k + 1 + 1) ds' ls' (L.drop (k + 1))) := by show _ = _; rw [HT.out, hdrop, linesP_next hdne ho]
          have Fw' := Fw.line ho
          rw [ho] at NLC
          clear HT Rr T3 hdrop hLk hNw HEND HXS Fw hfew hwk hdne ho hd2 P3 D3
          rcases hck with ⟨rfl, e1, he⟩ | ⟨e1, e2⟩
          all_goals
            go_wp2_with fail
            refine (PC.out _).mono ?_
            rintro e w3 ⟨g2, c2, cs2, ws, rfl, h1, h2, h3, h4, h5, h6, h7, G2, hb3⟩
            have RM := NLC.out w3 g2 c2 cs2 ws hb3 G2 h3 h4 h1 h2 h6.out h5.out
            have B3 : Below rb wr w3 := hb3.mono (Nat.le_trans hB2 hbw.size)
            clear hb3 G2 h5 h6 h7 PC NLC lc
            go_wp2_with fail
            refine Calls.mono RM.out ?_
            rintro e w4 ⟨bo, rfl, h4'⟩
            obtain ⟨hb4, h5', h7'⟩ := h4'.out
            have h6' : Value.bool bo = Value.bool true := by simpa using h5'
            obtain rfl : bo = true := by simpa using h6'
            have B4 := (hbw.trans B3).trans hb4
            have HR : Hid (RdN rb rb w4 ds' ls') := h7'
            clear h4' h5' h6' h7' hb4 RM B3 hbw
            go_wp2_with fail
            go_roundw
            case rel => exact ⟨k + 1, ds', ls', by go_num, by omega, Fw', HW, HR, B4⟩
            case measure => simp [intOf]; omega
    · have hkN : k = N := by omega
      subst hkN
      have HV : Hid (netP s.data.toList = if netV ds ls = 0 then ((ds, ls), 0, 0) else (([], []), 0, netV ds ls)) := by
        show _ = _
        rw [HN.out, HT.out, HEND.out]
        rfl
      obtain ⟨ys, vd, vl, rfl, hrb, K, Ro⟩ := Rr.out
      have dv := Ro.devs
      have lk := Ro.links
      obtain ⟨A, ca, rfl⟩ := own_slice Ro.dev
      obtain ⟨C, cb, rfl⟩ := own_slice Ro.lnk
      have c0 := K.cell 0 _ rfl
      have c1 := K.cell 1 _ rfl
      have N3 : Blk wr w.heap.size #[.slice none 0 0, .slice none 0 0] 25 := (hbw.block _ hrz).trans N2.out
      generalize hds : ys.map Prod.fst = ds at *
      have CK : Hid (Calls Tryz.prog 13 #[.agg #[.slice A ys.length ca, .slice C ls.length cb]] wr fun e w' => e = .returned (.int .i64 (netV ds ls)) ∧ Below wr.heap.size wr w') := rnet_any _ _ ds ls wr dv lk
      clear HN HT Rr dv lk hNw HEND HXS T3 Fw
      go_wp2_with fail
      refine CK.out.mono ?_
      rintro e w5 ⟨rfl, hb5⟩
      have P5 := keepPair hb5 P3
      have N5 := N3.keep hb5
      have K5 := K.keep hb5
      have Ro5 := Ro.below hb5
      have d0 := K5.cell 0 _ rfl
      have d1 := K5.cell 1 _ rfl
      have D5 := D3.trans (hb5.mono D3.size)
      clear P3 K c0 c1 CK N3
      obtain ⟨l0, ⟨k0, k1⟩, f0, f1⟩ := P5
      by_cases hv : netV ds ls = 0
      · have HW : Hid (netP s.data.toList = ((ds, ls), 0, 0)) := HV.out.trans (if_pos hv)
        have Ro6 := (Ro5.net N5 0 (.slice A ys.length ca))
        have N6 := N5.set (j := 0) (.slice A ys.length ca)
        have Ro7 := Ro6.net N6 1 (.slice C ls.length cb)
        have dv7 := Ro7.devs
        have lk7 := Ro7.links
        rw [hds] at dv7
        rw [hv]
        clear HV hv Ro5 Ro6 Ro7 N5 N6 Ro hb5
        go_wp2_with fail
        refine bodyPost_ret (v := .tuple #[.agg #[.slice A ys.length ca, .slice C ls.length cb], .int .i64 0, .int .i64 0]) (by simp [results, Tryz.results5, go_sem, k0, k1]) rfl ⟨below_set2 D5 (Nat.le_refl _) _ _, ?_⟩
        rw [HW.out]
        exact ⟨_, _, rfl, dv7, lk7⟩
      · have HW : Hid (netP s.data.toList = (([], []), 0, netV ds ls)) := HV.out.trans (if_neg hv)
        have q : (netV ds ls == 0) = false := by simpa using hv
        generalize netV ds ls = nv at *
        clear HV hv Ro5 N5 Ro hb5
        go_wp2_with fail
        refine bodyPost_ret (v := .tuple #[.agg #[.slice none 0 0, .slice none 0 0], .int .i64 0, .int .i64 nv]) (by simp [results, Tryz.results5, go_sem, k0, k1]) rfl ⟨below_set2 D5 (Nat.le_refl _) _ _, ?_⟩
        rw [HW.out]
        exact ⟨_, _, rfl, nil_slAt _ _ _ _, nil_slAt _ _ _ _⟩
theorem rdnet_any (s : ByteArray) (w : World) : Calls Tryz.prog 5 #[.string s] w fun e w' => ParseOut w (netP s.data.toList) e w' := by
  by_cases h : 4096 < s.size
  · have e : netP s.data.toList = (([], []), 0, 2) := by
      unfold netP
      rw [if_pos (by simpa using h)]
    rw [e]
    exact rdnet_big s w h
  · exact rdnet_lines s w (by omega)
end Go.Proofs.YtnkgjkoncglfjaaGreatDoor
