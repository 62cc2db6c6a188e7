/-
  NetReads: the document's answer: a line, whatever it is.
-/
import Derived.Test.YtnkgjkoncglfjaaGreatDoorNRc
import Derived.Test.YtnkgjkoncglfjaaGreatDoorNRe
import Derived.Test.YtnkgjkoncglfjaaGreatDoorZK
import Derived.Test.YtnkgjkoncglfjaaGreatDoorZL
import Derived.Test.YtnkgjkoncglfjaaGreatDoorNRi4
import Derived.Test.YtnkgjkoncglfjaaGreatDoorNRi5
import Derived.Test.YtnkgjkoncglfjaaGreatDoorZM
import Derived.Test.YtnkgjkoncglfjaaGreatDoorRNet
namespace Go.Proofs.YtnkgjkoncglfjaaGreatDoor
open Go.RowKit

def kwL : List (List UInt8) := [[], kwB 1, kwB 2, kwB 3, kwB 4, kwB 5]
def findL : List (List UInt8) → List UInt8 → Nat → Int
  | [], _, _ => -1
  | x :: r, s, k => if x = s then (k : Int) else findL r s (k + 1)
def kwIx (s : List UInt8) : Int := findL kwL s 0
theorem kwA_at {k : Nat} {x : List UInt8} (h : kwL[k]? = some x) : kwA[k]? = some (.string ⟨x.toArray⟩) := by
  have hk : k < 6 := (List.getElem?_eq_some_iff.1 h).1
  have : k = 0 ∨ k = 1 ∨ k = 2 ∨ k = 3 ∨ k = 4 ∨ k = 5 := by omega
  rcases this with rfl | rfl | rfl | rfl | rfl | rfl <;> (obtain rfl := Option.some.inj h; rfl)
set_option maxHeartbeats 1000000 in
theorem index_kw (s0 : ByteArray) (W : World) (z : Nat) (K : Blk W z kwA 9) : Calls Tryz.prog 31 #[.slice (some ⟨z, 0, none⟩) 6 6, .string s0] W fun e w' => e = .returned (.int .i64 (kwIx s0.data.toList)) ∧ Below W.heap.size W w' := by
  go_enter Tryz.func31, Tryz.ntmps31
  go_wp2_with fail
  go_loopw [8] (fun i wr => ∃ k : Nat, i = .int .i64 (k : Int) ∧ k ≤ 6 ∧ Hid (kwIx s0.data.toList = findL (kwL.drop k) s0.data.toList k) ∧ wr = W) (fun i _ => 6 - (intOf i).toNat)
  case atStart => exact ⟨0, rfl, by omega, rfl, rfl⟩
  case round =>
    obtain ⟨k, rfl, hk, HA, rfl⟩ := hrel
    by_cases hlt : k < 6
    · obtain ⟨x, hx⟩ : ∃ x, kwL[k]? = some x := ⟨kwL[k], List.getElem?_eq_getElem hlt⟩
      have hc := K.cell k _ (kwA_at hx)
      have hdrop : kwL.drop k = x :: kwL.drop (k + 1) := by
        rw [List.drop_eq_getElem_cons hlt]
        congr 1
        rw [List.getElem?_eq_getElem hlt] at hx
        exact Option.some.inj hx
      have k2 : (k : Int) < 6 := by omega
      by_cases he : x = s0.data.toList
      · have HV : Hid (kwIx s0.data.toList = (k : Int)) := by show _ = _; rw [HA.out, hdrop, findL, if_pos he]
        have hb : (s0.toList == x) = true := by rw [bytes_list]; simp [he]
        clear HA hdrop hx he
        go_wp2_with fail
        go_ret
        exact ⟨by rw [HV.out]; rfl, Below.refl _ _⟩
      · have HV : Hid (kwIx s0.data.toList = findL (kwL.drop (k + 1)) s0.data.toList (k + 1)) := by show _ = _; rw [HA.out, hdrop, findL, if_neg he]
        have hb : (s0.toList == x) = false := by
          rw [bytes_list]
          simp only [beq_eq_false_iff_ne, ne_eq]
          intro e
          exact he e.symm
        clear HA hdrop hx he
        go_wp2_with fail
        go_roundw
        case rel => exact ⟨k + 1, by go_num, by omega, HV, (by first | rfl | trivial)⟩
        case measure => simp [intOf]; omega
    · have HV : Hid (kwIx s0.data.toList = -1) := by
        show _ = _
        rw [HA.out, List.drop_of_length_le (by show 6 ≤ k; omega), findL]
      have k2 : ¬ (k : Int) < 6 := by omega
      clear HA
      go_wp2_with fail
      go_ret
      exact ⟨by rw [HV.out]; rfl, Below.refl _ _⟩
/-- A router, to see whether its name is right. -/
def rtr (s : ByteArray) (h : s.size ≤ maxLen) : Dv := ⟨s, 2, 0, 0, [], [], [], by omega, h⟩
theorem rtr_v (s : ByteArray) (h : s.size ≤ maxLen) : netV [rtr s h] [] = if nameOk s then 0 else 3 := by
  have hc : checkV [] = 0 := by
    unfold checkV
    rw [if_neg (by simp), checkFrom_end (by simp)]
  have hb : backsFrom [] 0 0 = 0 := by
    unfold backsFrom
    simp
  have h1 : devWrong [rtr s h] 0 (rtr s h) = if nameOk s then 0 else 3 := by
    unfold devWrong
    show (if nameOk s then _ else _) = _
    cases nameOk s
    · rfl
    · simp [rtr, devC, devV, hasAddr, hc, hb]
  unfold netV
  rw [if_neg (by simp), devsFrom_at (d := rtr s h) rfl, h1, devsFrom_end (by simp), linksFrom_end (by simp)]
  cases nameOk s <;> rfl
theorem rtr_devs (W : World) (b : Nat) (s : ByteArray) (h : s.size ≤ maxLen) (K : Blk W b #[.string s, .int .i64 2, .int .i64 0, .int .u8 0, .slice none 0 0, .slice none 0 0, .slice none 0 0] 50) : Devs W.heap.size W (.slice (some ⟨b, 0, none⟩) 1 1) [rtr s h] := by
  refine ⟨some ⟨b, 0, none⟩, 1, rfl, (fun e => by cases e), by simp, by decide, fun _ => ⟨b, 0, rfl, K.lt, fun k x hx => ?_⟩⟩
  match k, hx with
  | 0, hx =>
    obtain rfl := Option.some.inj hx
    refine ⟨[.string s, .int .i64 2, .int .i64 0, .int .u8 0, .slice none 0 0, .slice none 0 0, .slice none 0 0], rfl, ⟨_, _, _, rfl, nil_slAt _ _ _ _, nil_slAt _ _ _ _, nil_slAt _ _ _ _⟩, fun j u hj => ?_⟩
    have hj7 : j < 7 := (List.getElem?_eq_some_iff.1 hj).1
    have := K.cell j u (by rw [← hj]; simp)
    simpa using this
set_option maxHeartbeats 1000000 in
set_option maxRecDepth 100000 in
/-- The document's Net. -/
theorem rnet_any (vd vl : Value) (ds : List Dv) (ls : List Lk) (w : World) (hD : Devs w.heap.size w vd ds) (hL : Links w.heap.size w vl ls) :
    Calls Tryz.prog 13 #[.agg #[vd, vl]] w fun e w' => e = .returned (.int .i64 (netV ds ls)) ∧ Below w.heap.size w w' := by
  have hD0 := hD
  have hL0 := hL
  obtain ⟨A, cap, rfl, _, _, _, _⟩ := hD
  obtain ⟨B, cap', rfl, _, _, _, _⟩ := hL
  unfold netV
  by_cases h : 10 < ds.length ∨ 15 < ls.length
  · rw [if_pos h]
    have D0 := Below.alN (Below.refl w.heap.size w) (.cells #[.slice A ds.length cap, .slice B ls.length cap'] 25)
    clear hD0 hL0
    by_cases h10 : 10 < ds.length
    · have t10 : decide ((10 : Int) < (ds.length : Int)) = true := by simp; omega
      clear h
      go_enter Tryz.func13, Tryz.ntmps13
      go_wp2_with fail
      go_ret
      exact ⟨rfl, D0⟩
    · have t10 : decide ((10 : Int) < (ds.length : Int)) = false := by simp; omega
      have t15 : decide ((15 : Int) < (ls.length : Int)) = true := by simp; omega
      clear h
      go_enter Tryz.func13, Tryz.ntmps13
      go_wp2_with fail
      go_ret
      exact ⟨rfl, D0⟩
  · rw [if_neg h]
    exact rnet_row A B cap cap' ds ls _ w hD0 hL0 (by omega) (by omega) rfl
end Go.Proofs.YtnkgjkoncglfjaaGreatDoor

namespace Go.Proofs.YtnkgjkoncglfjaaGreatDoor
open Go.RowKit

theorem rd_open {B rb : Nat} {w : World} {ds : List Dv} {ls : List Lk} (R : RdN B rb w ds ls) : ∃ xs A cap C cap', xs.map Prod.fst = ds ∧ B ≤ rb ∧ Blk w rb #[.slice A xs.length cap, .slice C ls.length cap'] 25 ∧ RdOk B w xs ls (.slice A xs.length cap) (.slice C ls.length cap') ∧ xs.length = ds.length := by
  obtain ⟨xs, vd, vl, rfl, hrb, K0, R0⟩ := R
  obtain ⟨A, cap, rfl⟩ := own_slice R0.dev
  obtain ⟨C, cap', rfl⟩ := own_slice R0.lnk
  exact ⟨xs, A, cap, C, cap', rfl, hrb, K0, R0, by simp⟩
theorem sz_of (l : List UInt8) : (⟨l.toArray⟩ : ByteArray).size = l.length := by rw [Lib.size_eq]
theorem nl_rule_any (B rb g cw : Nat) (ds : List Dv) (ls : List Lk) (s0 : ByteArray) (r : List ByteArray) (cs : Array Value) (w : World) (hB : B ≤ w.heap.size) (R : RdN B rb w ds ls) (hn : ds.length ≤ 5000) (hl : ls.length ≤ 5000) (hr : ∀ d ∈ ds, d.rules.length ≤ 5000) (G : Wds w g cs (s0 :: r)) (hw : r.length ≤ 5000) (hcw : r.length ≤ cw) (hcm : cw ≤ 9223372036854775807) (hs : ∀ x ∈ r, x.size ≤ 4096) (hj : (Lib.join (r.map (·.data.toList)) [32]).length ≤ 1000000)
    (hp : s0.data.toList = ruleW true ∨ s0.data.toList = ruleW false) :
    Calls Tryz.prog 11 #[.pointer (some ⟨rb, 0, none⟩), .slice (some ⟨g, 0, none⟩) (r.length + 1) (cw + 1)] w fun e w' => LineN B rb w (if ls = [] ∧ ds ≠ [] ∧ (Mt.matP (Lib.join (r.map (·.data.toList)) [32])).2 = 0 then some (addRule ds (mkRule (decide (s0.data.toList = ruleW true)) (Mt.matP (Lib.join (r.map (·.data.toList)) [32])).1), ls) else none) e w' := by
  have cell : ∀ W, Below w.heap.size w W → ∀ (j : Nat) x, (r.map (·.data.toList))[j]? = some x → W.cell? ⟨g, 1 + j, none⟩ = some (.string ⟨x.toArray⟩) := fun W hb j x hx => by
    rw [List.getElem?_map] at hx
    obtain ⟨y, hy, rfl⟩ := Option.map_eq_some_iff.1 hx
    have := (G.below hb).cell (j + 1) y (by simpa using hy)
    rw [Nat.add_comm] at this
    exact this
  have hx5 : ∀ x ∈ r.map (·.data.toList), x.length ≤ 5000 := fun x hx => by
    obtain ⟨y, hy, rfl⟩ := List.mem_map.1 hx
    have := hs y hy
    rw [← Lib.size_eq]
    omega
  have JO : Hid (∀ W, Below w.heap.size w W → ∀ (P : Option Addr) (k : Nat), (0 < r.length → P = some ⟨g, 1, none⟩) → r.length ≤ k → Calls Tryz.prog 29 #[.slice P r.length k, .string ⟨#[32]⟩] W fun e w' => e = .returned (.string ⟨(Lib.join (r.map (·.data.toList)) [32]).toArray⟩) ∧ w' = W) := fun W hb P k hP hk => by
    by_cases h0 : r.length = 0
    · obtain rfl := List.length_eq_zero_iff.1 h0
      exact joined_nil P k W
    · obtain rfl := hP (by omega)
      have := joined_wide (r.map (·.data.toList)) g 1 k W (by simpa using hw) hj (cell W hb) hx5 (by simpa using hk)
      rw [List.length_map] at this
      exact this
  have MP : ∀ w, Calls Tryz.prog 28 #[.string ⟨(Lib.join (r.map (·.data.toList)) [32]).toArray⟩] w fun e w' => e = .returned (matV (Mt.matP (Lib.join (r.map (·.data.toList)) [32]))) ∧ Below w.heap.size w w' := fun w => by
    have := rread_any ⟨(Lib.join (r.map (·.data.toList)) [32]).toArray⟩ w (by
      rw [sz_of]
      unfold maxLen
      omega)
    simpa using this
  have hlt := Mt.matP_lt (Lib.join (r.map (·.data.toList)) [32])
  have hnil : r.length = 0 → (Mt.matP (Lib.join (r.map (·.data.toList)) [32])).2 ≠ 0 := fun h => by
    obtain rfl := List.length_eq_zero_iff.1 h
    exact matP_nil
  clear cell hx5 hj
  generalize Lib.join (r.map (·.data.toList)) [32] = jl at *
  generalize Mt.matP jl = m at *
  obtain ⟨⟨a, b, c, d4⟩, er⟩ := m
  simp only at hlt hnil
  have g0 := G.cell 0 s0 rfl
  have w1e : ruleW true = [112, 101, 114, 109, 105, 116] := rfl
  have w2e : ruleW false = [100, 101, 110, 121] := rfl
  have q12 : (s0.toList == [112, 101, 114, 109, 105, 116]) = true ∨ ((s0.toList == [112, 101, 114, 109, 105, 116]) = false ∧ (s0.toList == [100, 101, 110, 121]) = true) := by
    by_cases h : s0.data.toList = ruleW true
    · exact .inl (eq_word (h.trans w1e))
    · exact .inr ⟨ne_word (l := [112, 101, 114, 109, 105, 116]) h, eq_word ((hp.resolve_left h).trans w2e)⟩
  by_cases hc : ls = [] ∧ ds ≠ [] ∧ er = 0
  · obtain ⟨rfl, hd, rfl⟩ := hc
    rw [if_pos ⟨rfl, hd, rfl⟩]
    obtain ⟨xs, A, cap, C, cap', rfl, hrb, K0, R0, _⟩ := rd_open R
    rcases List.eq_nil_or_concat xs with rfl | ⟨ys, x, rfl⟩
    · exact absurd rfl hd
    rw [List.concat_eq_append] at *
    obtain ⟨d, vb, vr, vt⟩ := x
    obtain ⟨Ar, cr, rfl⟩ : ∃ A cap, vr = .slice A d.rules.length cap := own_slice (R0.rule (d, vb, vr, vt) (by simp))
    obtain ⟨gd, rfl⟩ := own_head R0.dev (by simp)
    have hy : ys.length ≤ 5000 := by simp at hn; omega
    have e1 : (ys ++ [(d, vb, Value.slice Ar d.rules.length cr, vt)]).length = ys.length + 1 := by simp
    rw [e1] at K0
    have R1 : RdOk B w (ys ++ [(d, vb, .slice Ar d.rules.length cr, vt)]) [] (.slice (some ⟨gd, 0, none⟩) (ys.length + 1) cap) (.slice C 0 cap') := by
      rw [e1] at R0
      exact R0
    have hcw0 : ¬ cw = 0 := fun h => hnil (by omega) rfl
    have JO1 : Hid (∀ W, Below w.heap.size w W → Calls Tryz.prog 29 #[.slice (some ⟨g, 1, none⟩) r.length cw, .string ⟨#[32]⟩] W fun e w' => e = .returned (.string ⟨jl.toArray⟩) ∧ w' = W) := fun W hb => JO.out W hb _ cw (fun _ => rfl) hcw
    by_cases ht : s0.data.toList = ruleW true
    · have hmk : mkRule (decide (s0.data.toList = ruleW true)) (a, b, c, d4) = ⟨true, a, b, c, d4, hlt.1, hlt.2.1, hlt.2.2.1, hlt.2.2.2⟩ := by
        unfold mkRule
        rw [dif_pos hlt, decide_eq_true ht]
      have e2 : addRule ((ys ++ [(d, vb, Value.slice Ar d.rules.length cr, vt)]).map Prod.fst) (mkRule (decide (s0.data.toList = ruleW true)) (a, b, c, d4)) = ys.map Prod.fst ++ [{ d with rules := d.rules ++ [⟨true, a, b, c, d4, hlt.1, hlt.2.1, hlt.2.2.1, hlt.2.2.2⟩] }] := by
        rw [hmk, List.map_append]
        exact addRule_eq _ _ _
      rw [e2]
      exact nl_rule_true B rb g gd ys C cap cap' d vb vt Ar cr s0 r.length cw ⟨jl.toArray⟩ a b c d4 hlt.1 hlt.2.1 hlt.2.2.1 hlt.2.2.2 cs w hB hrb K0 R1 (hr d (by simp)) hy hcw0 hcw hw hcm G.1 (G.2 0 s0 rfl) (eq_word (ht.trans w1e)) JO1 MP
    · have hmk : mkRule (decide (s0.data.toList = ruleW true)) (a, b, c, d4) = ⟨false, a, b, c, d4, hlt.1, hlt.2.1, hlt.2.2.1, hlt.2.2.2⟩ := by
        unfold mkRule
        rw [dif_pos hlt, decide_eq_false ht]
      have e2 : addRule ((ys ++ [(d, vb, Value.slice Ar d.rules.length cr, vt)]).map Prod.fst) (mkRule (decide (s0.data.toList = ruleW true)) (a, b, c, d4)) = ys.map Prod.fst ++ [{ d with rules := d.rules ++ [⟨false, a, b, c, d4, hlt.1, hlt.2.1, hlt.2.2.1, hlt.2.2.2⟩] }] := by
        rw [hmk, List.map_append]
        exact addRule_eq _ _ _
      rw [e2]
      exact nl_rule_false B rb g gd ys C cap cap' d vb vt Ar cr s0 r.length cw ⟨jl.toArray⟩ a b c d4 hlt.1 hlt.2.1 hlt.2.2.1 hlt.2.2.2 cs w hB hrb K0 R1 (hr d (by simp)) hy hcw0 hcw hw hcm G.1 (G.2 0 s0 rfl) (ne_word (l := [112, 101, 114, 109, 105, 116]) ht) (eq_word ((hp.resolve_left ht).trans w2e)) JO1 MP
  · rw [if_neg hc]
    obtain ⟨xs, A, cap, C, cap', rfl, hrb, K0, R0, hxl⟩ := rd_open R
    refine nl_rule_no B rb g r.length cw xs.length ls.length cap cap' A C s0 ⟨jl.toArray⟩ a b c d4 er w hB (K0.cell 0 _ rfl) (K0.cell 1 _ rfl) (by simpa using hn) hl g0 hcw hw hcm ?_ q12 JO MP
    by_cases h1 : ls = []
    · subst h1
      by_cases h2 : xs = []
      · exact .inl (.inl (by rw [h2]; rfl))
      · obtain ⟨gd, hg⟩ := own_head R0.dev (fun e => h2 (List.length_eq_zero_iff.1 e))
        have hpos := List.length_pos_iff.2 h2
        exact .inr ⟨⟨gd, xs.length - 1, by omega, hg⟩, rfl, fun h => hc ⟨rfl, by simpa using h2, h⟩⟩
    · have hm := List.length_pos_iff.2 h1
      by_cases h2 : xs.length = 0
      · exact .inl (.inl h2)
      · exact .inl (.inr ⟨by omega, hm⟩)
theorem routeP_pieces {x p : List UInt8} (h : (Mt.spl 47 x).length ≠ 2) : routeP [x, p] = none := by
  rw [routeP]
  rcases Pk.pieces_cases 47 x with ⟨_, h1 | ⟨a, b, h1, h2⟩⟩ | ⟨a, b, h1, _, h3⟩
  · rw [h1]
  · rw [h1]
    have hb : pnum b = none := by unfold pnum; rw [Pk.num_bad 47 b (by decide) h2]
    simp only [hb]
    cases pnum a <;> rfl
  · rw [Mt.pieces_spl] at h3
    rw [h3] at h
    exact absurd rfl h
theorem routeP_two {x p a b : List UInt8} (h : Mt.spl 47 x = [a, b]) : routeP [x, p] = if 0 ≤ Pk.dg 99 a ∧ 0 ≤ Pk.dg 99 b ∧ 0 ≤ Pk.dg 99 p then some ⟨Pk.dg 99 a, Pk.dg 99 b, Pk.dg 99 p⟩ else none := by
  rw [routeP]
  rcases Pk.pieces_cases 47 x with ⟨h0, _⟩ | ⟨a', b', h1, _, h3⟩
  · rw [Mt.pieces_spl, h] at h0
    exact absurd rfl h0
  · rw [Mt.pieces_spl, h] at h3
    simp only [List.cons.injEq, and_true] at h3
    obtain ⟨rfl, rfl⟩ := h3
    rw [h1]
    simp only
    rcases ha : pnum a with _ | v
    · rw [pnum_none ha]; simp
    · obtain ⟨ea, a0, _⟩ := pnum_some ha
      rcases hb : pnum b with _ | n
      · rw [pnum_none hb]; simp
      · obtain ⟨eb, b0, _⟩ := pnum_some hb
        rcases hp : pnum p with _ | q
        · rw [pnum_none hp]; simp
        · obtain ⟨ep, p0, _⟩ := pnum_some hp
          rw [ea, eb, ep, if_pos ⟨a0, b0, p0⟩]
          rfl
theorem dig_hid (x : ByteArray) (h : x.size ≤ 4096) : Hid (∀ W, Calls Tryz.prog 30 #[.string x, .int .i64 99] W fun e w' => e = .returned (.int .i64 (Pk.dg 99 x.data.toList)) ∧ w' = W) := fun W => digits_any x 99 W (by unfold maxLen; omega)
theorem nl_route_any (B rb g cw : Nat) (ds : List Dv) (ls : List Lk) (s0 : ByteArray) (r : List ByteArray) (cs : Array Value) (w : World) (hB : B ≤ w.heap.size) (R : RdN B rb w ds ls) (hn : ds.length ≤ 5000) (hl : ls.length ≤ 5000) (hr : ∀ d ∈ ds, d.routes.length ≤ 5000) (G : Wds w g cs (s0 :: r)) (hw : r.length + 1 ≤ 5000) (hcw : r.length + 1 ≤ cw) (hcm : cw ≤ 9223372036854775807) (hs : ∀ x ∈ r, x.size ≤ 4096)
    (q1 : (s0.toList == [112, 101, 114, 109, 105, 116]) = false) (q2 : (s0.toList == [100, 101, 110, 121]) = false) (q3 : (s0.toList == [114, 111, 117, 116, 101]) = true) :
    Calls Tryz.prog 11 #[.pointer (some ⟨rb, 0, none⟩), .slice (some ⟨g, 0, none⟩) (r.length + 1) cw] w fun e w' => LineN B rb w (if ls = [] ∧ ds ≠ [] then (routeP (r.map (·.data.toList))).map fun t => (addRoute ds t, ls) else none) e w' := by
  obtain ⟨xs, A, cap, C, cap', rfl, hrb, K0, R0, hxl⟩ := rd_open R
  have g0 := G.cell 0 s0 rfl
  have NIL : (NoD xs.length ls.length ∨ ((∃ gd k, xs.length = k + 1 ∧ A = some ⟨gd, 0, none⟩) ∧ ls.length = 0 ∧ r.length + 1 ≠ 3)) → Calls Tryz.prog 11 #[.pointer (some ⟨rb, 0, none⟩), .slice (some ⟨g, 0, none⟩) (r.length + 1) cw] w fun e w' => LineN B rb w none e w' := fun h => nl_route_nil B rb g (r.length + 1) cw xs.length ls.length cap cap' A C s0 w (K0.cell 0 _ rfl) (K0.cell 1 _ rfl) (by omega) hl g0 (by omega) hw hcw hcm h q1 q2 q3
  by_cases hc : ls = [] ∧ xs.map Prod.fst ≠ []
  · rw [if_pos hc]
    obtain ⟨rfl, hd⟩ := hc
    rcases List.eq_nil_or_concat xs with rfl | ⟨ys, x, rfl⟩
    · exact absurd rfl hd
    rw [List.concat_eq_append] at *
    obtain ⟨d, vb, vr, vt⟩ := x
    obtain ⟨At, ct, rfl⟩ : ∃ A cap, vt = .slice A d.routes.length cap := own_slice (R0.rout (d, vb, vr, vt) (by simp))
    obtain ⟨gd, rfl⟩ := own_head R0.dev (by simp)
    have hy : ys.length ≤ 5000 := by simp at hn; omega
    have e1 : (ys ++ [(d, vb, vr, Value.slice At d.routes.length ct)]).length = ys.length + 1 := by simp
    rw [e1] at K0
    have R1 : RdOk B w (ys ++ [(d, vb, vr, .slice At d.routes.length ct)]) [] (.slice (some ⟨gd, 0, none⟩) (ys.length + 1) cap) (.slice C 0 cap') := by
      rw [e1] at R0
      exact R0
    by_cases h3 : r.length + 1 = 3
    · match r, h3, G, hs, hcw with
      | [s1, s2], _, G, hs, hcw =>
        have h1 := hs s1 (by simp)
        have h2 := hs s2 (by simp)
        show Calls Tryz.prog 11 #[.pointer (some ⟨rb, 0, none⟩), .slice (some ⟨g, 0, none⟩) 3 cw] w fun e w' => LineN B rb w ((routeP [s1.data.toList, s2.data.toList]).map fun t => (addRoute ((ys ++ [(d, vb, vr, Value.slice At d.routes.length ct)]).map Prod.fst) t, [])) e w'
        by_cases hp2 : (Mt.spl 47 s1.data.toList).length = 2
        · obtain ⟨a, b, hab⟩ : ∃ a b, Mt.spl 47 s1.data.toList = [a, b] := by
            match hm : Mt.spl 47 s1.data.toList, hp2 with
            | [a, b], _ => exact ⟨a, b, rfl⟩
          have ha := spl_len 47 s1.data.toList a (by rw [hab]; simp)
          have hb := spl_len 47 s1.data.toList b (by rw [hab]; simp)
          rw [← Lib.size_eq] at ha hb
          have PC : Hid (∀ W, Calls Tryz.prog 12 #[.string s1, .int .u8 47] W fun e w' => ∃ h ch, e = .returned (.slice (some ⟨h, 0, none⟩) 2 ch) ∧ 2 ≤ ch ∧ ch ≤ 9223372036854775807 ∧ h < w'.heap.size ∧ w'.cell? ⟨h, 0, none⟩ = some (.string ⟨a.toArray⟩) ∧ w'.cell? ⟨h, 1, none⟩ = some (.string ⟨b.toArray⟩) ∧ Below W.heap.size W w') := fun W => (words_any s1 47 W h1).mono fun e w' ⟨h, ch, cs', ws, he, c1, c2, _, _, hx, _, _, T, hb'⟩ => by
            have hx' := hx.out
            rw [hab] at hx'
            obtain rfl : ws = [⟨a.toArray⟩, ⟨b.toArray⟩] := by
              have := txts_of ws _ hx'
              rw [this]
              rfl
            exact ⟨h, ch, he, c1, c2, T.1.lt, T.cell 0 _ rfl, T.cell 1 _ rfl, hb'⟩
          have D1 := dig_hid ⟨a.toArray⟩ (by rw [sz_of]; omega)
          have D2 := dig_hid ⟨b.toArray⟩ (by rw [sz_of]; omega)
          have D3 := dig_hid s2 h2
          have := nl_route_go B rb g gd ys C cap cap' d vb vr At ct s0 s1 s2 ⟨a.toArray⟩ ⟨b.toArray⟩ cw (Pk.dg 99 a) (Pk.dg 99 b) (Pk.dg 99 s2.data.toList) cs w hB hrb K0 R1 (hr d (by simp)) hy (by simpa using hcw) hcm G.1 (G.2 0 s0 rfl) (G.2 1 s1 rfl) (G.2 2 s2 rfl) q1 q2 q3 PC D1 D2 D3
          rw [routeP_two hab]
          have e2 : ∀ t, addRoute ((ys ++ [(d, vb, vr, Value.slice At d.routes.length ct)]).map Prod.fst) t = ys.map Prod.fst ++ [{ d with routes := d.routes ++ [t] }] := fun t => by
            rw [List.map_append]
            exact addRoute_eq _ _ _
          split at this
          · rename_i hpos
            rw [if_pos hpos, Option.map_some, e2]
            exact this
          · rename_i hpos
            rw [if_neg hpos]
            exact this
        · rw [routeP_pieces hp2]
          refine nl_route_few B rb g cw ys.length cap cap' gd (Mt.spl 47 s1.data.toList).length C s0 s1 w hB (K0.cell 0 _ rfl) (K0.cell 1 _ rfl) hy g0 (G.cell 1 s1 rfl) (by simpa using hcw) hcm hp2 q1 q2 q3 (fun W => (words_any s1 47 W h1).mono fun e w' ⟨h, ch, cs', ws, he, c1, c2, _, _, hx, _, _, T, hb'⟩ => ⟨h, ch, ?_, hb'⟩)
          rw [he, ← hx.out, List.length_map]
    · have e : routeP (r.map (·.data.toList)) = none := by
        match r, h3 with
        | [], _ => rfl
        | [_], _ => rfl
        | [_, _], h => exact absurd rfl h
        | _ :: _ :: _ :: _, _ => rfl
      rw [e]
      exact NIL (.inr ⟨⟨gd, ys.length, e1, rfl⟩, rfl, h3⟩)
  · rw [if_neg hc]
    refine NIL (.inl ?_)
    by_cases h2 : xs.length = 0
    · exact .inl h2
    · refine .inr ⟨by omega, List.length_pos_iff.2 fun h => hc ⟨h, fun h' => h2 ?_⟩⟩
      rw [← List.length_map (f := Prod.fst), h']
      rfl
theorem nl_link_any (B rb g cw : Nat) (ds : List Dv) (ls : List Lk) (s0 : ByteArray) (r : List ByteArray) (cs : Array Value) (w : World) (hB : B ≤ w.heap.size) (R : RdN B rb w ds ls) (hn : ds.length ≤ 5000) (hl : ls.length ≤ 5000) (G : Wds w g cs (s0 :: r)) (hw : r.length + 1 ≤ 5000) (hs : ∀ x ∈ r, x.size ≤ 4096)
    (q1 : (s0.toList == [112, 101, 114, 109, 105, 116]) = false) (q2 : (s0.toList == [100, 101, 110, 121]) = false) (q3 : (s0.toList == [114, 111, 117, 116, 101]) = false) (q4 : (s0.toList == [108, 105, 110, 107]) = true) :
    Calls Tryz.prog 11 #[.pointer (some ⟨rb, 0, none⟩), .slice (some ⟨g, 0, none⟩) (r.length + 1) cw] w fun e w' => LineN B rb w ((linkP ds (r.map (·.data.toList))).map fun l => (ds, ls ++ [l])) e w' := by
  obtain ⟨xs, A, cap, C, cap', rfl, hrb, K0, R0, hxl⟩ := rd_open R
  by_cases h5 : r.length + 1 = 5
  · match r, h5, G, hs with
    | [a, p, b, q], _, G, hs =>
      have := nl_link_go B rb g xs ls A C cap cap' s0 a p b q cw (Pk.dg 99 p.data.toList) (Pk.dg 99 q.data.toList) _ _ cs w hB hrb K0 R0 (by omega) hl G.1 (G.2 0 _ rfl) (G.2 1 _ rfl) (G.2 2 _ rfl) (G.2 3 _ rfl) (G.2 4 _ rfl) q1 q2 q3 q4 rfl rfl (dig_hid p (hs p (by simp))) (dig_hid q (hs q (by simp)))
      have e : (linkP (xs.map Prod.fst) [a.data.toList, p.data.toList, b.data.toList, q.data.toList]).map (fun l => (xs.map Prod.fst, ls ++ [l])) = if 0 ≤ findFrom (xs.map Prod.fst) a.toList 0 ∧ 0 ≤ findFrom (xs.map Prod.fst) b.toList 0 ∧ 0 ≤ Pk.dg 99 p.data.toList ∧ 0 ≤ Pk.dg 99 q.data.toList then some (xs.map Prod.fst, ls ++ [⟨findFrom (xs.map Prod.fst) a.toList 0, Pk.dg 99 p.data.toList, findFrom (xs.map Prod.fst) b.toList 0, Pk.dg 99 q.data.toList⟩]) else none := by
        rw [linkP, bytes_list, bytes_list]
        by_cases ha : 0 ≤ findFrom (xs.map Prod.fst) a.data.toList 0
        · by_cases hb : 0 ≤ findFrom (xs.map Prod.fst) b.data.toList 0
          · rw [if_pos ⟨ha, hb⟩]
            rcases hp : pnum p.data.toList with _ | np
            · rw [pnum_none hp]; simp
            · obtain ⟨ep, p0, _⟩ := pnum_some hp
              rcases hq : pnum q.data.toList with _ | nq
              · rw [pnum_none hq]; simp
              · obtain ⟨eq, q0, _⟩ := pnum_some hq
                rw [ep, eq, if_pos ⟨ha, hb, p0, q0⟩]
                rfl
          · rw [if_neg (fun h => hb h.2), if_neg (fun h => hb h.2.1)]
            rfl
        · rw [if_neg (fun h => ha h.1), if_neg (fun h => ha h.1)]
          rfl
      show Calls Tryz.prog 11 #[.pointer (some ⟨rb, 0, none⟩), .slice (some ⟨g, 0, none⟩) 5 cw] w fun e w' => LineN B rb w ((linkP (xs.map Prod.fst) [a.data.toList, p.data.toList, b.data.toList, q.data.toList]).map fun l => (xs.map Prod.fst, ls ++ [l])) e w'
      rw [e]
      exact this
  · have e : linkP (xs.map Prod.fst) (r.map (·.data.toList)) = none := by
      match r, h5 with
      | [], _ => rfl
      | [_], _ => rfl
      | [_, _], _ => rfl
      | [_, _, _], _ => rfl
      | [_, _, _, _], h => exact absurd rfl h
      | _ :: _ :: _ :: _ :: _ :: _, _ => rfl
    rw [e]
    exact nl_link_few B rb g (r.length + 1) cw xs.length ls.length cap cap' A C s0 w (K0.cell 0 _ rfl) (K0.cell 1 _ rfl) (by omega) hl (G.cell 0 s0 rfl) (by omega) hw h5 (fun h => own_head R0.dev (by omega)) q1 q2 q3 q4
end Go.Proofs.YtnkgjkoncglfjaaGreatDoor

namespace Go.Proofs.YtnkgjkoncglfjaaGreatDoor
open Go.RowKit

theorem kwIx_cases (s : List UInt8) : (s = kwB 1 ∧ kwIx s = 1) ∨ (s = kwB 2 ∧ kwIx s = 2) ∨ (s = kwB 3 ∧ kwIx s = 3) ∨ (s = kwB 4 ∧ kwIx s = 4) ∨ (s = kwB 5 ∧ kwIx s = 5) ∨ (kwIx s < 1 ∧ s ≠ kwB 1 ∧ s ≠ kwB 2 ∧ s ≠ kwB 3 ∧ s ≠ kwB 4 ∧ s ≠ kwB 5) := by
  by_cases h1 : s = kwB 1
  · subst h1; exact .inl ⟨rfl, by decide⟩
  by_cases h2 : s = kwB 2
  · subst h2; exact .inr (.inl ⟨rfl, by decide⟩)
  by_cases h3 : s = kwB 3
  · subst h3; exact .inr (.inr (.inl ⟨rfl, by decide⟩))
  by_cases h4 : s = kwB 4
  · subst h4; exact .inr (.inr (.inr (.inl ⟨rfl, by decide⟩)))
  by_cases h5 : s = kwB 5
  · subst h5; exact .inr (.inr (.inr (.inr (.inl ⟨rfl, by decide⟩))))
  refine .inr (.inr (.inr (.inr (.inr ⟨?_, h1, h2, h3, h4, h5⟩))))
  have e : kwIx s = if [] = s then 0 else -1 := by
    unfold kwIx kwL
    simp only [findL]
    by_cases h0 : [] = s
    · rw [if_pos h0, if_pos h0]; rfl
    · rw [if_neg h0, if_neg h0, if_neg (Ne.symm h1), if_neg (Ne.symm h2), if_neg (Ne.symm h3), if_neg (Ne.symm h4), if_neg (Ne.symm h5)]
  rw [e]
  split <;> omega
theorem devP_other {w0 : List UInt8} {r : List (List UInt8)} (h : w0 ≠ kwB 1 ∧ w0 ≠ kwB 2 ∧ w0 ≠ kwB 3 ∧ w0 ≠ kwB 4 ∧ w0 ≠ kwB 5) : devP (w0 :: r) = none := by
  obtain ⟨h1, h2, h3, h4, h5⟩ := h
  match r with
  | [] => rfl
  | [_] => simp only [devP, if_neg h2, if_neg h3]; split <;> rfl
  | [_, _] => simp only [devP, if_neg h1]; split <;> rfl
  | [_, _, _] => simp only [devP, if_neg h4, if_neg h5]; split <;> rfl
  | _ :: _ :: _ :: _ :: _ => rfl
/-- How many words a kind's line has. -/
def lenK (k : Int) : Nat := if k = 1 then 3 else if k = 2 then 2 else if k = 3 then 2 else 4
theorem devP_len {k : Int} {r : List (List UInt8)} (hk : k = 1 ∨ k = 2 ∨ k = 3 ∨ k = 4 ∨ k = 5) (h : r.length + 1 ≠ lenK k) : devP (kwB k :: r) = none := by
  rcases hk with rfl | rfl | rfl | rfl | rfl
  all_goals
    match r, h with
    | [], _ => rfl
    | [_], h => first | exact absurd rfl h | (simp [devP, kwB])
    | [_, _], h => first | exact absurd rfl h | (simp [devP, kwB])
    | [_, _, _], h => first | exact absurd rfl h | (simp [devP, kwB])
    | _ :: _ :: _ :: _ :: _, _ => rfl
theorem mkDv_eq {s : ByteArray} {k ad : Int} {pl : Nat} {bs : List Int} (hs : s.size ≤ maxLen) (hp : pl < 256) : mkDv s.data.toList k ad pl bs = some ⟨s, k, ad, pl, bs, [], [], hp, hs⟩ := by
  unfold mkDv
  rw [dif_pos ⟨hp, by rw [← Lib.size_eq]; exact hs⟩]
theorem poolP_below : ∀ (l : List Int) (z y : Nat), (∀ x ∈ l, 0 ≤ x) → z < 256 → poolP l z = some y → y < 256
  | [], z, y, _, hz, h => by
    obtain rfl := Option.some.inj h
    exact hz
  | p :: r, z, y, h0, hz, h => by
    rw [poolP] at h
    split at h
    · cases h
    · rename_i hc
      have hp : p.toNat < 8 := by
        have := h0 p (by simp)
        have : ¬ 8 ≤ p := fun e => hc (.inl e)
        omega
      exact poolP_below r _ y (fun x hx => h0 x (by simp [hx])) (or_lt z p.toNat hz hp) h
set_option maxHeartbeats 1000000 in
theorem nl_dev_any (B rb g cw : Nat) (ds : List Dv) (ls : List Lk) (s0 : ByteArray) (r : List ByteArray) (cs : Array Value) (w : World) (hB : B ≤ w.heap.size) (R : RdN B rb w ds ls) (hn : ds.length ≤ 5000) (hl : ls.length ≤ 5000) (G : Wds w g cs (s0 :: r)) (hw : r.length + 1 ≤ 5000) (hs : ∀ x ∈ r, x.size ≤ 4096)
    (q1 : (s0.toList == [112, 101, 114, 109, 105, 116]) = false) (q2 : (s0.toList == [100, 101, 110, 121]) = false) (q3 : (s0.toList == [114, 111, 117, 116, 101]) = false) (q4 : (s0.toList == [108, 105, 110, 107]) = false) :
    Calls Tryz.prog 11 #[.pointer (some ⟨rb, 0, none⟩), .slice (some ⟨g, 0, none⟩) (r.length + 1) cw] w fun e w' => LineN B rb w (if ls = [] then (devP (s0.data.toList :: r.map (·.data.toList))).map fun d => (ds ++ [d], ls) else none) e w' := by
  obtain ⟨xs, A, cap, C, cap', rfl, hrb, K0, R0, hxl⟩ := rd_open R
  have hxn : xs.length ≤ 5000 := by omega
  have IX : Hid (∀ W z, Blk W z kwA 9 → Calls Tryz.prog 31 #[.slice (some ⟨z, 0, none⟩) 6 6, .string s0] W fun e w' => e = .returned (.int .i64 (kwIx s0.data.toList)) ∧ Below W.heap.size W w') := fun W z K => index_kw s0 W z K
  have mx : ∀ x : ByteArray, x.size ≤ 4096 → x.size ≤ maxLen := fun x hx => by unfold maxLen; omega
  have NV : ∀ s1 : ByteArray, s1.size ≤ 4096 → Hid (∀ W z, Blk W z #[.string s1, .int .i64 2, .int .i64 0, .int .u8 0, .slice none 0 0, .slice none 0 0, .slice none 0 0] 50 → Calls Tryz.prog 13 #[.agg #[.slice (some ⟨z, 0, none⟩) 1 1, .slice none 0 0]] W fun e w' => e = .returned (.int .i64 (if nameOk s1 then 0 else 3)) ∧ Below W.heap.size W w') := fun s1 h1 W z K => by
    have := rnet_any _ _ [rtr s1 (mx s1 h1)] [] W (rtr_devs W z s1 (mx s1 h1) K) (nil_slAt _ _ _ _)
    rw [rtr_v] at this
    exact this
  have RC : ∀ s3 : ByteArray, s3.size ≤ 4096 → Hid (∀ W, Calls Tryz.prog 32 #[.string s3] W fun e w' => NumsR W (pnums s3.data.toList) e w') := fun s3 h W => readCommas_any s3 W h
  have HS : Hid (∀ (b : Nat) (n : Int) (W : World), b < 65536 → Calls Tryz.prog 33 #[.int .i64 (b : Int), .int .i64 n] W fun e w' => e = .returned (.bool (hasB b n)) ∧ w' = W) := fun b n W h => rhas_any b n W h
  rcases kwIx_cases s0.data.toList with ⟨e0, ek⟩ | ⟨e0, ek⟩ | ⟨e0, ek⟩ | ⟨e0, ek⟩ | ⟨e0, ek⟩ | ⟨ek, hk⟩
  case inr.inr.inr.inr.inr =>
    rw [devP_other hk]
    have := nl_dev_bad B rb g xs ls A C cap cap' s0 (r.length + 1) cw cs w hB hrb K0 R0 hxn hl G.1 (G.2 0 _ rfl) q1 q2 q3 q4 _ ek (by omega) hw IX
    simpa using this
  all_goals
    rw [ek] at IX
    rw [e0]
    by_cases hls : ls = []
    rotate_left
    · rw [if_neg hls]
      have hpos := List.length_pos_iff.2 hls
      first
        | exact nl_dev_no1 B rb g xs ls A C cap cap' s0 (r.length + 1) cw cs w hB hrb K0 R0 hxn hl G.1 (G.2 0 _ rfl) q1 q2 q3 q4 (.inl hpos) (by omega) hw IX
        | exact nl_dev_no2 B rb g xs ls A C cap cap' s0 (r.length + 1) cw cs w hB hrb K0 R0 hxn hl G.1 (G.2 0 _ rfl) q1 q2 q3 q4 (.inl hpos) (by omega) hw IX
        | exact nl_dev_no3 B rb g xs ls A C cap cap' s0 (r.length + 1) cw cs w hB hrb K0 R0 hxn hl G.1 (G.2 0 _ rfl) q1 q2 q3 q4 (.inl hpos) (by omega) hw IX
        | exact nl_dev_no4 B rb g xs ls A C cap cap' s0 (r.length + 1) cw cs w hB hrb K0 R0 hxn hl G.1 (G.2 0 _ rfl) q1 q2 q3 q4 (.inl hpos) (by omega) hw IX
        | exact nl_dev_no5 B rb g xs ls A C cap cap' s0 (r.length + 1) cw cs w hB hrb K0 R0 hxn hl G.1 (G.2 0 _ rfl) q1 q2 q3 q4 (.inl hpos) (by omega) hw IX
    rw [if_pos hls]
    have HLS : Hid (ls = []) := hls
  ·
    by_cases h3 : r.length + 1 = 3
    · match r, h3, G, hs with
      | [s1, s2], _, G, hs =>
        have h1 := hs s1 (by simp)
        have := nl_dev_go1 B rb g xs ls A C cap cap' s0 s1 s2 cw cs w hB hrb K0 R0 hxn hl G.1 (G.2 0 _ rfl) (G.2 1 _ rfl) (G.2 2 _ rfl) q1 q2 q3 q4 HLS _ _ (mx s1 h1) IX (NV s1 h1) (dig_hid s2 (hs s2 (by simp)))
        have e : (devP (kwB 1 :: [s1, s2].map (·.data.toList))).map (fun d => (xs.map Prod.fst ++ [d], ls)) = if (if nameOk s1 then (0 : Int) else 3) = 0 ∧ 0 ≤ Pk.dg 99 s2.data.toList then some (xs.map Prod.fst ++ [⟨s1, 1, Pk.dg 99 s2.data.toList, 0, [], [], [], by omega, mx s1 h1⟩], []) else none := by
          show (devP [kwB 1, s1.data.toList, s2.data.toList]).map _ = _
          rw [devP, hls]
          cases nameOk s1
          · simp
          · rcases hp : pnum s2.data.toList with _ | n
            · rw [pnum_none hp]; simp
            · obtain ⟨ep, p0, _⟩ := pnum_some hp
              rw [ep]
              simp [mkDv_eq (mx s1 h1) (show 0 < 256 by omega), p0]
        rw [e]
        exact this
    · rw [devP_len (.inl rfl) (by rw [List.length_map]; exact h3)]
      exact nl_dev_no1 B rb g xs ls A C cap cap' s0 (r.length + 1) cw cs w hB hrb K0 R0 hxn hl G.1 (G.2 0 _ rfl) q1 q2 q3 q4 (.inr h3) (by omega) hw IX
  ·
    by_cases h3 : r.length + 1 = 2
    · match r, h3, G, hs with
      | [s1], _, G, hs =>
        have h1 := hs s1 (by simp)
        have := nl_dev_go2 B rb g xs ls A C cap cap' s0 s1 cw cs w hB hrb K0 R0 hxn hl G.1 (G.2 0 _ rfl) (G.2 1 _ rfl) q1 q2 q3 q4 HLS _ (mx s1 h1) IX (NV s1 h1)
        have e : (devP (kwB 2 :: [s1].map (·.data.toList))).map (fun d => (xs.map Prod.fst ++ [d], ls)) = if (if nameOk s1 then (0 : Int) else 3) = 0 then some (xs.map Prod.fst ++ [⟨s1, 2, 0, 0, [], [], [], by omega, mx s1 h1⟩], []) else none := by
          show (devP [kwB 2, s1.data.toList]).map _ = _
          rw [devP, hls]
          cases nameOk s1
          · simp
          · rw [if_pos rfl, if_pos rfl, if_pos rfl, if_pos rfl, mkDv_eq (mx s1 h1) (by omega)]
            rfl
        rw [e]
        exact this
    · rw [devP_len (.inr (.inl rfl)) (by rw [List.length_map]; exact h3)]
      exact nl_dev_no2 B rb g xs ls A C cap cap' s0 (r.length + 1) cw cs w hB hrb K0 R0 hxn hl G.1 (G.2 0 _ rfl) q1 q2 q3 q4 (.inr h3) (by omega) hw IX
  ·
    by_cases h3 : r.length + 1 = 2
    · match r, h3, G, hs with
      | [s1], _, G, hs =>
        have h1 := hs s1 (by simp)
        have := nl_dev_go3 B rb g xs ls A C cap cap' s0 s1 cw cs w hB hrb K0 R0 hxn hl G.1 (G.2 0 _ rfl) (G.2 1 _ rfl) q1 q2 q3 q4 HLS _ (mx s1 h1) IX (NV s1 h1)
        have e : (devP (kwB 3 :: [s1].map (·.data.toList))).map (fun d => (xs.map Prod.fst ++ [d], ls)) = if (if nameOk s1 then (0 : Int) else 3) = 0 then some (xs.map Prod.fst ++ [⟨s1, 3, 0, 0, [], [], [], by omega, mx s1 h1⟩], []) else none := by
          show (devP [kwB 3, s1.data.toList]).map _ = _
          rw [devP, hls]
          cases nameOk s1
          · simp
          · rw [if_pos rfl, if_neg (by decide), if_pos rfl, if_pos rfl, if_pos rfl, mkDv_eq (mx s1 h1) (by omega)]
            rfl
        rw [e]
        exact this
    · rw [devP_len (.inr (.inr (.inl rfl))) (by rw [List.length_map]; exact h3)]
      exact nl_dev_no3 B rb g xs ls A C cap cap' s0 (r.length + 1) cw cs w hB hrb K0 R0 hxn hl G.1 (G.2 0 _ rfl) q1 q2 q3 q4 (.inr h3) (by omega) hw IX
  ·
    by_cases h3 : r.length + 1 = 4
    · match r, h3, G, hs with
      | [s1, s2, s3], _, G, hs =>
        have h1 := hs s1 (by simp)
        have h2 := hs s2 (by simp)
        have h4 := hs s3 (by simp)
        have e : devP (kwB 4 :: [s1, s2, s3].map (·.data.toList)) = if nameOk s1 then (pnum s2.data.toList).bind fun ad => (ppool s3.data.toList).bind fun pl => mkDv s1.data.toList 4 ad pl [] else none := by
          show devP [kwB 4, s1.data.toList, s2.data.toList, s3.data.toList] = _
          rw [devP]
          simp only [if_true]
        rw [e]
        by_cases hnm : nameOk s1 = true
        · rw [if_pos hnm]
          have NV0 := NV s1 h1
          rw [if_pos hnm] at NV0
          rcases hp : pnum s2.data.toList with _ | n
          · exact nl_dev_bad4 B rb g xs ls A C cap cap' s0 s1 s2 cw cs w hB hrb K0 R0 hxn hl G.1 (G.2 0 _ rfl) (G.2 1 _ rfl) (G.2 2 _ rfl) q1 q2 q3 q4 HLS 0 (-1) (.inr (by omega)) IX NV0 (by have := dig_hid s2 h2; rw [pnum_none hp] at this; exact this)
          · obtain ⟨ep, p0, _⟩ := pnum_some hp
            have D2 := dig_hid s2 h2
            rw [ep] at D2
            rw [Option.bind_some]
            unfold ppool
            have RC3 := RC s3 h4
            rcases hq : pnums s3.data.toList with _ | l
            · rw [hq] at RC3
              exact nl_dev_none4 B rb g xs ls A C cap cap' s0 s1 s2 s3 cw cs w hB hrb K0 R0 hxn hl G.1 (G.2 0 _ rfl) (G.2 1 _ rfl) (G.2 2 _ rfl) (G.2 3 _ rfl) q1 q2 q3 q4 HLS n p0 IX NV0 D2 RC3
            · rw [hq] at RC3
              have := nl_dev_go4 B rb g xs ls A C cap cap' s0 s1 s2 s3 cw cs w hB hrb K0 R0 hxn hl G.1 (G.2 0 _ rfl) (G.2 1 _ rfl) (G.2 2 _ rfl) (G.2 3 _ rfl) q1 q2 q3 q4 HLS n p0 l (mx s1 h1) IX NV0 D2 RC3 HS
              rw [Option.bind_some, hls]
              have e2 : ((poolP l 0).bind fun pl => mkDv s1.data.toList 4 n pl []) = dv4 s1 n (mx s1 h1) (poolP l 0) := by
                rcases ho : poolP l 0 with _ | pl
                · rfl
                · have hlt := poolP_below l 0 pl (fun x hx => (pnums_range hq x hx).1) (by omega) ho
                  rw [Option.bind_some, mkDv_eq (mx s1 h1) hlt, dv4, dif_pos hlt]
              rw [e2]
              exact this
        · rw [if_neg hnm]
          have NV0 := NV s1 h1
          rw [if_neg hnm] at NV0
          exact nl_dev_bad4 B rb g xs ls A C cap cap' s0 s1 s2 cw cs w hB hrb K0 R0 hxn hl G.1 (G.2 0 _ rfl) (G.2 1 _ rfl) (G.2 2 _ rfl) q1 q2 q3 q4 HLS 3 _ (.inl (by omega)) IX NV0 (dig_hid s2 h2)
    · rw [devP_len (.inr (.inr (.inr (.inl rfl)))) (by rw [List.length_map]; exact h3)]
      exact nl_dev_no4 B rb g xs ls A C cap cap' s0 (r.length + 1) cw cs w hB hrb K0 R0 hxn hl G.1 (G.2 0 _ rfl) q1 q2 q3 q4 (.inr h3) (by omega) hw IX
  ·
    by_cases h3 : r.length + 1 = 4
    · match r, h3, G, hs with
      | [s1, s2, s3], _, G, hs =>
        have h1 := hs s1 (by simp)
        have h2 := hs s2 (by simp)
        have h4 := hs s3 (by simp)
        have e : devP (kwB 5 :: [s1, s2, s3].map (·.data.toList)) = if nameOk s1 then (pnum s2.data.toList).bind fun ad => (pnums s3.data.toList).bind fun bs => mkDv s1.data.toList 5 ad 0 bs else none := by
          show devP [kwB 5, s1.data.toList, s2.data.toList, s3.data.toList] = _
          rw [devP, if_neg (by decide : ¬ kwB 5 = kwB 4)]
          simp only [if_true]
        rw [e]
        by_cases hnm : nameOk s1 = true
        · rw [if_pos hnm]
          have NV0 := NV s1 h1
          rw [if_pos hnm] at NV0
          rcases hp : pnum s2.data.toList with _ | n
          · exact nl_dev_bad5 B rb g xs ls A C cap cap' s0 s1 s2 cw cs w hB hrb K0 R0 hxn hl G.1 (G.2 0 _ rfl) (G.2 1 _ rfl) (G.2 2 _ rfl) q1 q2 q3 q4 HLS 0 (-1) (.inr (by omega)) IX NV0 (by have := dig_hid s2 h2; rw [pnum_none hp] at this; exact this)
          · obtain ⟨ep, p0, _⟩ := pnum_some hp
            have D2 := dig_hid s2 h2
            rw [ep] at D2
            rw [Option.bind_some]
            have RC3 := RC s3 h4
            rcases hq : pnums s3.data.toList with _ | l
            · rw [hq] at RC3
              exact nl_dev_none5 B rb g xs ls A C cap cap' s0 s1 s2 s3 cw cs w hB hrb K0 R0 hxn hl G.1 (G.2 0 _ rfl) (G.2 1 _ rfl) (G.2 2 _ rfl) (G.2 3 _ rfl) q1 q2 q3 q4 HLS n p0 IX NV0 D2 RC3
            · rw [hq] at RC3
              have := nl_dev_go5 B rb g xs ls A C cap cap' s0 s1 s2 s3 cw cs w hB hrb K0 R0 hxn hl G.1 (G.2 0 _ rfl) (G.2 1 _ rfl) (G.2 2 _ rfl) (G.2 3 _ rfl) q1 q2 q3 q4 HLS n p0 l (mx s1 h1) IX NV0 D2 RC3
              rw [Option.bind_some, hls, mkDv_eq (mx s1 h1) (by omega)]
              exact this
        · rw [if_neg hnm]
          have NV0 := NV s1 h1
          rw [if_neg hnm] at NV0
          exact nl_dev_bad5 B rb g xs ls A C cap cap' s0 s1 s2 cw cs w hB hrb K0 R0 hxn hl G.1 (G.2 0 _ rfl) (G.2 1 _ rfl) (G.2 2 _ rfl) q1 q2 q3 q4 HLS 3 _ (.inl (by omega)) IX NV0 (dig_hid s2 h2)
    · rw [devP_len (.inr (.inr (.inr (.inr rfl)))) (by rw [List.length_map]; exact h3)]
      exact nl_dev_no5 B rb g xs ls A C cap cap' s0 (r.length + 1) cw cs w hB hrb K0 R0 hxn hl G.1 (G.2 0 _ rfl) q1 q2 q3 q4 (.inr h3) (by omega) hw IX
/-- A line does what lineP says. -/
theorem netLine_any (B rb g cw : Nat) (ds : List Dv) (ls : List Lk) (ws : List ByteArray) (cs : Array Value) (w : World) (hB : B ≤ w.heap.size) (R : RdN B rb w ds ls) (hn : ds.length ≤ 5000) (hl : ls.length ≤ 5000) (hr : ∀ d ∈ ds, d.rules.length ≤ 5000) (ht : ∀ d ∈ ds, d.routes.length ≤ 5000) (G : Wds w g cs ws) (hw0 : 0 < ws.length) (hw : ws.length ≤ 4097) (hcw : ws.length ≤ cw) (hcm : cw ≤ maxLen) (hs : ∀ x ∈ ws, x.size ≤ 4096) (hj : (Lib.join ((ws.map (·.data.toList)).drop 1) [32]).length ≤ 1000000) :
    Calls Tryz.prog 11 #[.pointer (some ⟨rb, 0, none⟩), .slice (some ⟨g, 0, none⟩) ws.length cw] w fun e w' => LineN B rb w (lineP ds ls (ws.map (·.data.toList))) e w' := by
  unfold maxLen at hcm
  match ws, hw0, hw, hcw, G, hs, hj with
  | s0 :: r, _, hw, hcw, G, hs, hj =>
    have hj' : (Lib.join (r.map (·.data.toList)) [32]).length ≤ 1000000 := hj
    have hsr : ∀ x ∈ r, x.size ≤ 4096 := fun x hx => hs x (by simp [hx])
    have hlen : (s0 :: r).length = r.length + 1 := by simp
    rw [hlen] at hw hcw ⊢
    show Calls _ _ _ w fun e w' => LineN B rb w (lineP ds ls (s0.data.toList :: r.map (·.data.toList))) e w'
    rw [lineP]
    by_cases p12 : s0.data.toList = ruleW true ∨ s0.data.toList = ruleW false
    · rw [if_pos p12]
      obtain ⟨c, rfl⟩ : ∃ c, cw = c + 1 := ⟨cw - 1, by omega⟩
      exact nl_rule_any B rb g c ds ls s0 r cs w hB R hn hl hr G (by omega) (by omega) (by omega) hsr hj' p12
    · rw [if_neg p12]
      have q1 := ne_word (s := s0) (l := [112, 101, 114, 109, 105, 116]) (fun h => p12 (.inl h))
      have q2 := ne_word (s := s0) (l := [100, 101, 110, 121]) (fun h => p12 (.inr h))
      by_cases p3 : s0.data.toList = routeW
      · rw [if_pos p3]
        exact nl_route_any B rb g cw ds ls s0 r cs w hB R hn hl ht G (by omega) hcw (by omega) hsr q1 q2 (eq_word (p3.trans rfl))
      · rw [if_neg p3]
        have q3 := ne_word (s := s0) (l := [114, 111, 117, 116, 101]) p3
        by_cases p4 : s0.data.toList = linkW
        · rw [if_pos p4]
          exact nl_link_any B rb g cw ds ls s0 r cs w hB R hn hl G (by omega) hsr q1 q2 q3 (eq_word (p4.trans rfl))
        · rw [if_neg p4]
          exact nl_dev_any B rb g cw ds ls s0 r cs w hB R hn hl G (by omega) hsr q1 q2 q3 (ne_word (l := [108, 105, 110, 107]) p4)
end Go.Proofs.YtnkgjkoncglfjaaGreatDoor

namespace Go.Proofs.YtnkgjkoncglfjaaGreatDoor
open Go.RowKit

/-- The lines that Lines tells: without what is behind the last end, if that is nothing. -/
def linesN (L : List (List UInt8)) : Nat := if L.getLast? = some [] then L.length - 1 else L.length
/-- What Lines tells. -/
def LnOut (w : World) (s : ByteArray) (e : Ending) (w' : World) : Prop :=
  ∃ (g cap : Nat) (cs : Array Value) (ws : List ByteArray), e = .returned (.tuple #[.slice (some ⟨g, 0, none⟩) (linesN (Mt.spl 10 s.data.toList)) cap, .bool (decide ((Mt.spl 10 s.data.toList).getLast? = some []))]) ∧ ws.length ≤ cap ∧ cap ≤ maxLen ∧ 0 < ws.length ∧ ws.length ≤ 4097 ∧ Hid (ws.map (·.data.toList) = Mt.spl 10 s.data.toList) ∧ Hid (∀ x ∈ ws, x.size ≤ s.size) ∧ w.heap.size ≤ g ∧ Wds w' g cs ws ∧ Below w.heap.size w w'
set_option maxHeartbeats 2000000 in
theorem lines_any (s : ByteArray) (w : World) (hs : s.size ≤ 4096) : Calls Tryz.prog 10 #[.string s] w fun e w' => LnOut w s e w' := by
  have SP : Hid (∀ w, Calls Tryz.prog 12 #[.string s, .int .u8 10] w fun e w' => PcOut w 10 s e w') := fun w => words_any s 10 w hs
  go_enter Tryz.func10, Tryz.ntmps10
  go_wp2_with fail
  refine (SP.out _).mono ?_
  rintro e w1 ⟨g, cap, cs, ws, rfl, hcap, hcm, hpos, hl, hx, HP, hg, T1, D1⟩
  obtain ⟨m, hm⟩ : ∃ m, ws.length = m + 1 := ⟨ws.length - 1, by omega⟩
  obtain ⟨x, hxm⟩ : ∃ x, ws[m]? = some x := ⟨ws[m], List.getElem?_eq_getElem (by omega)⟩
  have hc := T1.cell m x hxm
  have e1 : (((m + 1 : Nat) : Int) - 1) = (m : Int) := by omega
  have hlast : (Mt.spl 10 s.data.toList).getLast? = some x.data.toList := by
    rw [← hx.out, List.getLast?_eq_getElem?, List.length_map, hm, List.getElem?_map]
    simp [hxm]
  have hlen : (Mt.spl 10 s.data.toList).length = m + 1 := by rw [← hx.out, List.length_map, hm]
  have FIN : Hid (∀ (n : Nat) (b : Bool), b = decide (x.data.toList = []) → n = (if x.data.toList = [] then m else m + 1) → LnOut w s (.returned (.tuple #[.slice (some ⟨g, 0, none⟩) n cap, .bool b])) w1) := fun n b hb hn => by
    refine ⟨g, cap, cs, ws, ?_, hcap, hcm, hpos, hl, hx, HP, hg, T1, D1⟩
    unfold linesN
    rw [hlast, hlen, hb, hn]
    simp
  have hcap1 : m + 1 ≤ cap := by omega
  unfold maxLen at hcm
  rw [hm]
  clear hlast hlen hx HP T1 D1 SP hxm hg hpos
  by_cases h0 : x.data.toList = []
  · have hq : (x.toList == []) = true := by rw [bytes_list, h0]; rfl
    have hq2 : x.toList.isEmpty = true := by rw [bytes_list, h0]; rfl
    have F1 := FIN.out m true (by simp [h0]) (by simp [h0])
    clear FIN h0
    go_wp2_with fail
    go_ret2
    exact F1
  · have hq : (x.toList == []) = false := by rw [bytes_list]; simpa using h0
    have hq2 : x.toList.isEmpty = false := by rw [bytes_list]; simpa using h0
    have F1 := FIN.out (m + 1) false (by simp [h0]) (by simp [h0])
    clear FIN h0
    go_wp2_with fail
    go_ret2
    exact F1
end Go.Proofs.YtnkgjkoncglfjaaGreatDoor
