/-
  Texts of nets: Parse, line by line.
-/
import Derived.Test.YthofdiacncgbkaaGreatDoorPC7
namespace Go.Proofs.YthofdiacncgbkaaGreatDoor
open Go.RowKit

def netO : Nat ⊕ (List Dv × List Lk) → (List Dv × List Lk) × Nat × Int
  | .inl n => (([], []), n, 3)
  | .inr (ds, ls) => if netV ds ls = 0 then ((ds, ls), 0, 0) else (([], []), 0, netV ds ls)
theorem netP_eq (l : List UInt8) (h : l.length ≤ 4096) : netP l = netO (textP (l.length + 1) 1 [] [] l) := by
  unfold netP
  rw [if_neg (by omega)]
  cases textP (l.length + 1) 1 [] [] l <;> rfl
theorem RdOk.net {B n : Nat} {w : World} {xs : List (Dv × Sub)} {ls : List Lk} {vd vl : Value} {c : Array Value} (R : RdOk B w xs ls vd vl) (K : Blk w n c 25) (j : Nat) (u : Value) : RdOk B (w.setCell ⟨n, j, none⟩ u) xs ls vd vl := R.kept (kept_set w n j u) (fun e cur g' he hc h' => by
  obtain rfl := Option.some.inj h'
  unfold Blk at K
  rw [K] at hc
  simp only [Option.some.injEq, Obj.cells.injEq] at hc
  have := hc.2.1
  subst this
  revert he
  decide)
theorem Rd.drewN {B rb : Nat} {w : World} {ds : List Dv} {ls : List Lk} (h : Rd B rb w ds ls) (n : Nat) : Rd B rb (w.drewN n) ds ls := h.below (below_drewN (Below.refl _ _) n)
set_option maxHeartbeats 4000000 in
set_option maxRecDepth 100000 in
theorem parse_lines (s : ByteArray) (w : World) (h : s.size ≤ 4096) (hD : DLn 0 w) : Calls Tryz.prog 5 #[.string s] w fun e w' => ParseOut w (netP s.data.toList) e w' := by
  have hb1 : ¬ (4096 : Int) < (s.size : Int) := by omega
  have P0 := allocPair (pair_new w (.slice none 0 0) (.slice none 0 0) 25) (.cells #[.slice none 0 0, .slice none 0 0] 40)
  have D0 := Below.alloc' (Below.alloc' (Below.refl w.heap.size w) (.cells #[.slice none 0 0, .slice none 0 0] 25)) (.cells #[.slice none 0 0, .slice none 0 0] 40)
  have N0 := (blk_new w #[.slice none 0 0, .slice none 0 0] 25).alloc (.cells #[.slice none 0 0, .slice none 0 0] 40)
  have hsz1 : (w.alloc (.cells #[.slice none 0 0, .slice none 0 0] 25)).heap.size = w.heap.size + 1 := by simp
  have X0 := blk_new (w.alloc (.cells #[.slice none 0 0, .slice none 0 0] 25)) #[.slice none 0 0, .slice none 0 0] 40
  rw [hsz1] at X0
  have R0 : Rd (w.heap.size + 1) (w.heap.size + 1) _ [] [] := ⟨[], _, _, rfl, Nat.le_refl _, X0, RdOk.start _ _⟩
  have DL := hD.below D0 hD.lt
  have hglt := hD.lt
  have HN : Hid (netP s.data.toList = netO (textP (s.size + 1) 1 [] [] s.data.toList)) := by
    show _ = _
    rw [Lib.size_eq]
    exact netP_eq _ (by rw [← Lib.size_eq]; exact h)
  clear hD X0 hsz1
  go_enter Tryz.func5, Tryz.ntmps5
  go_wp2_with fail
  generalize (w.alloc (.cells #[.slice none 0 0, .slice none 0 0] 25)).alloc (.cells #[.slice none 0 0, .slice none 0 0] 40) = w2 at *
  have hB2 : w.heap.size + 1 ≤ w2.heap.size := by
    obtain ⟨_, _, _, _, _, K, _⟩ := R0
    have := K.lt
    omega
  go_loopw [0, 6] (fun x i wr => ∃ (rest : ByteArray) (k f : Nat) (ds : List Dv) (ls : List Lk), x = .string rest ∧ i = .int .i64 (k : Int) ∧ 1 ≤ k ∧ k + rest.size ≤ 4097 ∧ rest.size ≤ f ∧ Few (k - 1) ds ls ∧ Hid (textP (s.size + 1) 1 [] [] s.data.toList = textP (f + 1) k ds ls rest.data.toList) ∧ Hid (Rd (w.heap.size + 1) (w.heap.size + 1) wr ds ls) ∧ Below (w.heap.size + 1) w2 wr) (fun x _ _ => match x with | .string r => r.size | _ => 0)
  case atStart => exact ⟨s, 1, s.size, [], [], rfl, rfl, Nat.le_refl _, by omega, Nat.le_refl _, ⟨by simp, by simp, by simp, by simp⟩, rfl, R0, Below.refl _ _⟩
  case round =>
    obtain ⟨rest, k, f, ds, ls, rfl, rfl, hk1, hk, hf, Fw, HT, Rr, hbw⟩ := hrel
    have P1 := pairB hbw (Nat.lt_succ_self _) P0
    have N1 : Blk wr w.heap.size #[.slice none 0 0, .slice none 0 0] 25 := (hbw.block _ (Nat.lt_succ_self _)).trans N0
    have DLr := DL.below hbw (by omega)
    have D2 : Below w.heap.size w wr := D0.trans (hbw.mono (Nat.le_succ _))
    by_cases h0 : rest.size = 0
    · obtain rfl : rest = ⟨#[]⟩ := by
        apply ByteArray.ext
        exact Array.eq_empty_of_size_eq_zero h0
      have HV : Hid (netP s.data.toList = if netV ds ls = 0 then ((ds, ls), 0, 0) else (([], []), 0, netV ds ls)) := by
        show _ = _
        rw [HN.out, HT.out]
        rfl
      obtain ⟨xs, vd, vl, rfl, hrb, K, Ro⟩ := Rr.out
      have dv := Ro.devs
      have lk := Ro.links
      obtain ⟨A, cap, rfl⟩ := own_slice Ro.dev
      obtain ⟨C, cap', rfl⟩ := own_slice Ro.lnk
      have c0 := K.cell 0 _ rfl
      have c1 := K.cell 1 _ rfl
      generalize hds : xs.map Prod.fst = ds at *
      have CK : Hid (Calls Tryz.prog 11 #[.agg #[.slice A xs.length cap, .slice C ls.length cap']] wr fun e w' => e = .returned (.int .i64 (netV ds ls)) ∧ Below wr.heap.size wr w') := net_any _ _ ds ls wr dv lk
      clear HN HT Rr dv lk
      go_wp2_with fail
      refine CK.out.mono ?_
      rintro e w5 ⟨rfl, hb5⟩
      have P5 := keepPair hb5 P1
      have N5 := N1.keep hb5
      have K5 := K.keep hb5
      have Ro5 := Ro.below hb5
      have d0 := K5.cell 0 _ rfl
      have d1 := K5.cell 1 _ rfl
      have D5 := D2.trans (hb5.mono D2.size)
      clear P1 K c0 c1 CK N1
      obtain ⟨l0, ⟨k0, k1⟩, f0, f1⟩ := P5
      by_cases hv : netV ds ls = 0
      · have HW : Hid (netP s.data.toList = ((ds, ls), 0, 0)) := HV.out.trans (if_pos hv)
        have Ro6 := (Ro5.net N5 0 (.slice A xs.length cap))
        have N6 := N5.set (j := 0) (.slice A xs.length cap)
        have Ro7 := Ro6.net N6 1 (.slice C ls.length cap')
        have dv7 := Ro7.devs
        have lk7 := Ro7.links
        rw [hds] at dv7
        rw [hv]
        clear HV hv Ro5 Ro6 Ro7 N5 N6 Ro hb5
        go_wp2_with fail
        refine bodyPost_ret (v := .tuple #[.agg #[.slice A xs.length cap, .slice C ls.length cap'], .int .i64 0, .int .i64 0]) (by simp [results, Tryz.results5, go_sem, k0, k1]) rfl ⟨below_set2 D5 (Nat.le_refl _) _ _, ?_⟩
        rw [HW.out]
        exact ⟨_, _, rfl, dv7, lk7⟩
      · have HW : Hid (netP s.data.toList = (([], []), 0, netV ds ls)) := HV.out.trans (if_neg hv)
        have q : (netV ds ls == 0) = false := by simpa using hv
        generalize netV ds ls = nv at *
        clear HV hv Ro5 N5 Ro hb5
        go_wp2_with fail
        refine bodyPost_ret (v := .tuple #[.agg #[.slice none 0 0, .slice none 0 0], .int .i64 0, .int .i64 nv]) (by simp [results, Tryz.results5, go_sem, k0, k1]) rfl ⟨below_set2 D5 (Nat.le_refl _) _ _, ?_⟩
        rw [HW.out]
        exact ⟨_, _, rfl, nil_slAt _ _ _ _, nil_slAt _ _ _ _⟩
    · have hne : ¬ rest.toList = [] := not_empty rest (by omega)
      have hne2 : rest.toList.isEmpty = false := by rw [List.isEmpty_eq_false_iff]; exact hne
      have hl0 : rest.data.toList ≠ [] := by rw [← bytes_list]; exact hne
      obtain ⟨f', rfl⟩ : ∃ f', f = f' + 1 := ⟨f - 1, by omega⟩
      rcases hq : Pk.brk 10 rest.data.toList with _ | ⟨a, b⟩
      · have CT : Hid (∀ w, Calls Tryz.prog 9 #[.string rest, .string ⟨#[10]⟩] w fun e w' => e = .returned (.tuple #[.string rest, .string ⟨#[]⟩, .bool false]) ∧ ∃ n, w' = w.drewN n) := fun w => cut_none rest 10 w hq
        have HW : Hid (netP s.data.toList = (([], []), k, 3)) := by show _ = _; rw [HN.out, HT.out, textP_stop hl0 hq]; rfl
        clear HN HT hq hl0 Rr Fw DLr N1
        go_wp2_with fail
        refine (CT.out _).mono ?_
        rintro e w3 ⟨rfl, n, rfl⟩
        have D3 := below_drewN D2 n
        have P3 : Pair (wr.drewN n) w.heap.size (.slice none 0 0) (.slice none 0 0) := P1
        clear P1 D2 hbw
        generalize wr.drewN n = w3 at *
        obtain ⟨l0, ⟨k0, k1⟩, f0, f1⟩ := P3
        go_wp2_with fail
        refine bodyPost_ret (v := .tuple #[.agg #[.slice none 0 0, .slice none 0 0], .int .i64 (k : Int), .int .i64 3]) (by simp [results, Tryz.results5, go_sem, k0, k1]) rfl ⟨below_set2 D3 (Nat.le_refl _) _ _, ?_⟩
        rw [HW.out]
        exact ⟨_, _, rfl, nil_slAt _ _ _ _, nil_slAt _ _ _ _⟩
      · have hll := (Pk.brk_some 10 _ a b hq).1
        have hlen : rest.size = a.length + (b.length + 1) := by rw [Lib.size_eq, hll]; simp
        have sz : Hid (∀ l : List UInt8, (⟨l.toArray⟩ : ByteArray).size = l.length) := fun l => by rw [Lib.size_eq]
        have CT : Hid (∀ w, Calls Tryz.prog 9 #[.string rest, .string ⟨#[10]⟩] w fun e w' => e = .returned (.tuple #[.string ⟨a.toArray⟩, .string ⟨b.toArray⟩, .bool true]) ∧ ∃ n, w' = w.drewN n) := fun w => cut_some rest 10 a b w (by unfold maxLen; omega) hq
        have RL : Hid (∀ n, Calls Tryz.prog 10 #[.pointer (some ⟨w.heap.size + 1, 0, none⟩), .string ⟨a.toArray⟩] (wr.drewN n) fun e w' => ∃ bo, e = .returned (.bool bo) ∧ Hid (LineOut (w.heap.size + 1) (w.heap.size + 1) (wr.drewN n) (lineP ds ls (Mt.spl 32 a)) (.returned (.bool bo)) w')) := fun n => (line_calls (readLine_any (w.heap.size + 1) (w.heap.size + 1) ds ls ⟨a.toArray⟩ (wr.drewN n) (Nat.le_trans hB2 hbw.size) (Rr.out.drewN n) (by have := Fw.devs; omega) (by have := Fw.links; omega) (fun d hd => by have := Fw.rules d hd; omega) (fun d hd => by have := Fw.routes d hd; omega) (by rw [sz.out]; omega) DLr)).out
        rcases ho : lineP ds ls (Mt.spl 32 a) with _ | ⟨ds', ls'⟩
        · have HW : Hid (netP s.data.toList = (([], []), k, 3)) := by show _ = _; rw [HN.out, HT.out, textP_bad hl0 hq ho]; rfl
          rw [ho] at RL
          clear HN HT hq hl0 Rr Fw DLr N1 hll
          go_wp2_with fail
          refine (CT.out _).mono ?_
          rintro e w3 ⟨rfl, n, rfl⟩
          have D3 := below_drewN D2 n
          have P3 : Pair (wr.drewN n) w.heap.size (.slice none 0 0) (.slice none 0 0) := P1
          have RM : Hid (Calls Tryz.prog 10 #[.pointer (some ⟨w.heap.size + 1, 0, none⟩), .string ⟨a.toArray⟩] (wr.drewN n) fun e w' => ∃ bo, e = .returned (.bool bo) ∧ Hid (LineOut (w.heap.size + 1) (w.heap.size + 1) (wr.drewN n) none (.returned (.bool bo)) w')) := RL.out n
          clear P1 D2 hbw RL
          generalize wr.drewN n = w3 at *
          go_wp2_with fail
          refine Calls.mono RM.out ?_
          rintro e w4 ⟨bo, rfl, h4⟩
          obtain ⟨hb4, h5⟩ := h4.out
          have h6 : Value.bool bo = Value.bool false := by simpa using h5
          obtain rfl : bo = false := by simpa using h6
          have D4 := D3.trans (hb4.mono (Nat.le_succ _))
          have P4 := pairB hb4 (Nat.lt_succ_self _) P3
          clear P3 D3 h4 h5 h6 hb4 RM
          obtain ⟨l0, ⟨k0, k1⟩, f0, f1⟩ := P4
          go_wp2_with fail
          refine bodyPost_ret (v := .tuple #[.agg #[.slice none 0 0, .slice none 0 0], .int .i64 (k : Int), .int .i64 3]) (by simp [results, Tryz.results5, go_sem, k0, k1]) rfl ⟨below_set2 D4 (Nat.le_refl _) _ _, ?_⟩
          rw [HW.out]
          exact ⟨_, _, rfl, nil_slAt _ _ _ _, nil_slAt _ _ _ _⟩
        · have HW : Hid (textP (s.size + 1) 1 [] [] s.data.toList = textP (f' + 1) (k + 1) ds' ls' b) := HT.out.trans (textP_next hl0 hq ho)
          have Fw' : Few (k + 1 - 1) ds' ls' := by
            have := Fw.line ho
            rw [show k - 1 + 1 = k + 1 - 1 by omega] at this
            exact this
          rw [ho] at RL
          clear HT hq hl0 Rr Fw DLr N1 hll ho
          go_wp2_with fail
          refine (CT.out _).mono ?_
          rintro e w3 ⟨rfl, n, rfl⟩
          have B3 := below_drewN hbw n
          have RM : Hid (Calls Tryz.prog 10 #[.pointer (some ⟨w.heap.size + 1, 0, none⟩), .string ⟨a.toArray⟩] (wr.drewN n) fun e w' => ∃ bo, e = .returned (.bool bo) ∧ Hid (LineOut (w.heap.size + 1) (w.heap.size + 1) (wr.drewN n) (some (ds', ls')) (.returned (.bool bo)) w')) := RL.out n
          clear P1 D2 hbw RL
          generalize wr.drewN n = w3 at *
          go_wp2_with fail
          refine Calls.mono RM.out ?_
          rintro e w4 ⟨bo, rfl, h4⟩
          obtain ⟨hb4, h5, h7⟩ := h4.out
          have h6 : Value.bool bo = Value.bool true := by simpa using h5
          obtain rfl : bo = true := by simpa using h6
          have B4 := B3.trans hb4
          have HR : Hid (Rd (w.heap.size + 1) (w.heap.size + 1) w4 ds' ls') := h7
          clear B3 h4 h5 h6 h7 hb4 RM
          go_wp2_with fail
          go_roundw
          case rel => exact ⟨⟨b.toArray⟩, k + 1, f', ds', ls', rfl, by go_num, by omega, by rw [sz.out]; omega, by rw [sz.out]; omega, Fw', by simpa using HW, HR, B4⟩
          case measure =>
            show (⟨b.toArray⟩ : ByteArray).size < rest.size
            have := sz.out b
            omega
end Go.Proofs.YthofdiacncgbkaaGreatDoor
