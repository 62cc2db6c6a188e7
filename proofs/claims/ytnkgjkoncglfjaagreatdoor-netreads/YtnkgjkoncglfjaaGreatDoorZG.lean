/-
  Texts of nets: a rule's line.
-/
import Derived.Test.YtnkgjkoncglfjaaGreatDoorZE
import Derived.Test.YtnkgjkoncglfjaaGreatDoorZF
namespace Go.Proofs.YtnkgjkoncglfjaaGreatDoor
open Go.RowKit

theorem blk_texts {w : World} {g : Nat} {ws : List ByteArray} (h : Blk w g (ws.map Value.string).toArray 9) : Texts w g ws := ⟨h.lt, fun j x hj => h.cell j _ (by simp [hj])⟩
/-- The words but the first, joined. -/
theorem join_rest (g : Nat) (s0 : ByteArray) (r : List ByteArray) (w : World) (T : Texts w g (s0 :: r)) (hl : r.length ≤ 5000) (hj : (Lib.join (r.map (·.data.toList)) [32]).length ≤ 1000000) :
    Calls Tryz.prog 42 #[.slice (some ⟨g, 1, none⟩) r.length r.length, .string ⟨#[32]⟩] w fun e w' => e = .returned (.string ⟨(Lib.join (r.map (·.data.toList)) [32]).toArray⟩) ∧ Below w.heap.size w w' := by
  cases r with
  | nil =>
    refine (Tryz.strings_Join_none (some ⟨g, 1, none⟩) 0 ⟨#[32]⟩ w).mono ?_
    rintro e w' ⟨rfl, rfl⟩
    exact ⟨rfl, Below.refl _ _⟩
  | cons a r =>
    exact Tryz.strings_Join g 1 _ (a :: r) ⟨#[32]⟩ w (fun j x hj => by
      have := T.2 (j + 1) x (by simpa using hj)
      rw [Nat.add_comm] at this
      exact this) T.1 (by simp at hl ⊢; omega) (Nat.le_refl _) (by
        have : ([32] : List UInt8) = (⟨#[32]⟩ : ByteArray).data.toList := rfl
        rw [this] at hj
        omega)
set_option maxHeartbeats 4000000 in
set_option maxRecDepth 100000 in
theorem readRule_yes (B rb g gd : Nat) (ys : List (Dv × Sub)) (C : Option Addr) (cap cap' : Nat) (d : Dv) (vb vt : Value) (Ar : Option Addr) (cr : Nat) (s0 : ByteArray) (nr : Nat) (J : ByteArray) (okb : Bool) (a b c e4 : Nat) (ha : a < 65536) (hb : b < 65536) (hc : c < 256) (he : e4 < 256) (cs : Array Value) (w : World)
    (hB : B ≤ w.heap.size) (hrb : B ≤ rb) (K0 : Blk w rb #[.slice (some ⟨gd, 0, none⟩) (ys.length + 1) cap, .slice C 0 cap'] 32) (R : RdOk B w (ys ++ [(d, vb, .slice Ar d.rules.length cr, vt)]) [] (.slice (some ⟨gd, 0, none⟩) (ys.length + 1) cap) (.slice C 0 cap')) (hn : d.rules.length ≤ 5000) (hy : ys.length ≤ 5000) (h0 : ¬ nr = 0)
    (G : Blk w g cs 9) (hg0 : cs[0]? = some (.string s0)) (hok : (s0.toList == [112, 101, 114, 109, 105, 116]) = okb)
    (JO : Hid (Calls Tryz.prog 42 #[.slice (some ⟨g, 1, none⟩) nr nr, .string ⟨#[32]⟩] w fun e w' => e = .returned (.string J) ∧ Below w.heap.size w w'))
    (MP : Hid (∀ w, Calls Tryz.prog 41 #[.string J] w fun e w' => e = .returned (matV ((a, b, c, e4), 0)) ∧ Below w.heap.size w w')) :
    Calls Tryz.prog 22 #[.pointer (some ⟨rb, 0, none⟩), .slice (some ⟨g, 0, none⟩) (nr + 1) (nr + 1)] w fun e w' => LineOut B rb w (some (ys.map Prod.fst ++ [{ d with rules := d.rules ++ [⟨okb, a, b, c, e4, ha, hb, hc, he⟩] }], [])) e w' := by
  have OP : Hid (Calls Tryz.prog 40 #[.pointer (some ⟨rb, 0, none⟩)] w fun e w' => e = .returned (.pointer (some ⟨gd, 7 * ys.length, none⟩)) ∧ w' = w) := open_last rb ys.length cap cap' gd C w (K0.cell 0 _ rfl) (K0.cell 1 _ rfl) hy
  go_enter Tryz.func22, Tryz.ntmps22
  go_wp2_with fail
  refine OP.out.mono ?_
  rintro e w1 ⟨rfl, rfl⟩
  go_wp2_with fail
  refine JO.out.mono ?_
  rintro e w2 ⟨rfl, hb2⟩
  go_wp2_with fail
  refine (MP.out _).mono ?_
  rintro e w5 ⟨rfl, hb5'⟩
  have hb5 := chain hb5' hb2
  clear hb5' hb2 JO MP OP
  unfold matV mt
  have K5 := K0.keep hb5
  have G5 := G.keep hb5
  have R5 := R.below hb5
  have Al := (Below.refl w5.heap.size w5).alloc (Nat.le_refl _) (.cells #[.int .u16 (a : Int), .int .u16 (b : Int), .int .u8 (c : Int), .int .u8 (e4 : Int)] 55)
  have K6 := K5.keep Al
  have G6 := G5.keep Al
  have R6 := R5.below Al.drew
  have X6 := blk_new w5 #[.int .u16 (a : Int), .int .u16 (b : Int), .int .u8 (c : Int), .int .u8 (e4 : Int)] 55
  have D6 : Below w1.heap.size w1 (w5.alloc (.cells #[.int .u16 (a : Int), .int .u16 (b : Int), .int .u8 (c : Int), .int .u8 (e4 : Int)] 55)) := hb5.trans (Al.mono hb5.size)
  clear K0 R K5 R5 hb5 Al G G5
  go_wp2_with fail
  generalize w5.alloc (.cells #[.int .u16 (a : Int), .int .u16 (b : Int), .int .u8 (c : Int), .int .u8 (e4 : Int)] 55) = w6 at *
  generalize w5.heap.size = bx at *
  have DB : Below B w1 w6 := D6.mono hB
  have hB6 : B ≤ w6.drew.heap.size := Nat.le_trans hB D6.size
  obtain ⟨gd', v7, w7, e7, r7, R8, D8, dv7, Kp7⟩ := R6.addRule ⟨okb, a, b, c, e4, ha, hb, hc, he⟩ hn hB6 47
  obtain rfl : gd = gd' := by simpa [Value.ownBlock] using e7
  have r7' : (Builtin.append_ #[47, 47] 47 #[.slice Ar d.rules.length cr, .slice (some ⟨w6.heap.size, 0, none⟩) 1 1]).run Tryz.prog (w6.alloc (.cells #[.bool okb, .int .u16 (a : Int), .int .u16 (b : Int), .int .u8 (c : Int), .int .u8 (e4 : Int)] 57)).drew = .ok v7 w7 := r7
  have K7 := Blk.keptB (w := w6.drew) K6 Kp7 (fun e => K6.apart (w := w6) (R6.rule (d, vb, .slice Ar d.rules.length cr, vt) (by simp)) (by decide) e.symm)
  have G7 := Blk.keptB (w := w6.drew) G6 Kp7 (fun e => G6.apart (w := w6) (R6.rule (d, vb, .slice Ar d.rules.length cr, vt) (by simp)) (by decide) e.symm)
  have X7 := Blk.keptB (w := w6.drew) X6 Kp7 (fun e => X6.apart (w := w6) (R6.rule (d, vb, .slice Ar d.rules.length cr, vt) (by simp)) (by decide) e.symm)
  have hne : rb ≠ gd := fun e => K6.apart (w := w6) R6.dev (by decide) (by rw [e]; rfl)
  have hneg : g ≠ gd := fun e => G6.apart (w := w6) R6.dev (by decide) (by rw [e]; rfl)
  have hnex : bx ≠ gd := fun e => X6.apart (w := w6) R6.dev (by decide) (by rw [e]; rfl)
  have K8 := K7.setOther (j := 7 * ys.length + 5) hne v7
  have c0 := (last_cells (w := w6) R6.dev rfl (j := 5) rfl).1
  have c0a := cell_alN c0 (.cells #[.bool okb, .int .u16 (a : Int), .int .u16 (b : Int), .int .u8 (c : Int), .int .u8 (e4 : Int)] 57)
  obtain ⟨c7, f7⟩ := last_cells dv7 rfl (j := 5) rfl
  have x0 := X6.cell 0 _ rfl
  have x1 := X6.cell 1 _ rfl
  have x2 := X6.cell 2 _ rfl
  have x3 := X6.cell 3 _ rfl
  have z0 := X7.cell 0 _ rfl
  have z1 := X7.cell 1 _ rfl
  have z2 := X7.cell 2 _ rfl
  have z3 := X7.cell 3 _ rfl
  have g0 := G6.cell 0 _ hg0
  have g7 := G7.cell 0 _ hg0
  have y0 := (World.cell?_setCell_far w7 ⟨gd, 7 * ys.length + 5, none⟩ ⟨g, 0, none⟩ v7 (Ne.symm hneg)).trans g7
  have y1 := (World.cell?_setCell_far w7 ⟨gd, 7 * ys.length + 5, none⟩ ⟨bx, 0, none⟩ v7 (Ne.symm hnex)).trans z0
  have y2 := (World.cell?_setCell_far w7 ⟨gd, 7 * ys.length + 5, none⟩ ⟨bx, 1, none⟩ v7 (Ne.symm hnex)).trans z1
  have y3 := (World.cell?_setCell_far w7 ⟨gd, 7 * ys.length + 5, none⟩ ⟨bx, 2, none⟩ v7 (Ne.symm hnex)).trans z2
  have y4 := (World.cell?_setCell_far w7 ⟨gd, 7 * ys.length + 5, none⟩ ⟨bx, 3, none⟩ v7 (Ne.symm hnex)).trans z3
  have DB8 := DB.drew.trans D8
  have hv := own_slice (R8.rule _ (List.mem_append_right _ (List.mem_singleton.2 rfl)))
  obtain ⟨A7, cap7, hv7⟩ := hv
  simp only [List.length_append, List.length_singleton] at hv7
  subst hv7
  have n1 := World.new_ne w6 ⟨gd, 7 * ys.length + 5, none⟩ c0
  have n2 := World.new_ne w6 ⟨g, 0, none⟩ g0
  have n3 := World.new_ne w6 ⟨bx, 0, none⟩ x0
  clear R6 r7 Kp7 D8 DB D6 K6 X6 dv7 e7 K7 G6 G7 X7
  go_region_law (refine step_append_run (by rfl) _ _ 47 (by rfl) _ _ _ w7 (by rfl) (by rfl) r7' ?_)
  all_goals
    go_wp2_with fail
    go_ret
    exact ⟨DB8, rfl, _, _, _, by simp, hrb, K8, R8⟩
end Go.Proofs.YtnkgjkoncglfjaaGreatDoor



namespace Go.Proofs.YtnkgjkoncglfjaaGreatDoor
open Go.RowKit

set_option maxHeartbeats 4000000 in
set_option maxRecDepth 100000 in
theorem readRule_no (B rb g nr : Nat) (P : Option Addr) (J : ByteArray) (a b c d er : Nat) (w : World) (hB : B ≤ w.heap.size) (hP : P = none ∨ er ≠ 0)
    (OP : Hid (Calls Tryz.prog 40 #[.pointer (some ⟨rb, 0, none⟩)] w fun e w' => e = .returned (.pointer P) ∧ w' = w))
    (JO : Hid (∀ A k, (¬ nr = 0 → A = some ⟨g, 1, none⟩ ∧ k = nr) → Calls Tryz.prog 42 #[.slice A nr k, .string ⟨#[32]⟩] w fun e w' => e = .returned (.string J) ∧ Below w.heap.size w w'))
    (MP : Hid (∀ w, Calls Tryz.prog 41 #[.string J] w fun e w' => e = .returned (matV ((a, b, c, d), er)) ∧ Below w.heap.size w w')) :
    Calls Tryz.prog 22 #[.pointer (some ⟨rb, 0, none⟩), .slice (some ⟨g, 0, none⟩) (nr + 1) (nr + 1)] w fun e w' => LineOut B rb w none e w' := by
  unfold matV mt at MP
  simp only at MP
  by_cases h0 : nr = 0
  · subst h0
    cases P with
    | none =>
      go_enter Tryz.func22, Tryz.ntmps22
      go_wp2_with fail
      refine OP.out.mono ?_
      rintro e w1 ⟨rfl, rfl⟩
      go_wp2_with fail
      refine (JO.out _ _ (fun h => by simp at h)).mono ?_
      rintro e w2 ⟨rfl, hb2⟩
      go_wp2_with fail
      refine (MP.out _).mono ?_
      rintro e w5 ⟨rfl, hb5'⟩
      have hb5 := chain hb5' hb2
      have D6 := (hb5.mono hB).alloc (Nat.le_trans hB hb5.size) (.cells #[.int .u16 (a : Int), .int .u16 (b : Int), .int .u8 (c : Int), .int .u8 (d : Int)] 55)
      go_wp2_with fail
      go_ret
      exact ⟨D6, rfl⟩
    | some p =>
      have he : ((er : Int) == 0) = false := by
        rcases hP with h | h
        · cases h
        · simp; omega
      go_enter Tryz.func22, Tryz.ntmps22
      go_wp2_with fail
      refine OP.out.mono ?_
      rintro e w1 ⟨rfl, rfl⟩
      go_wp2_with fail
      refine (JO.out _ _ (fun h => by simp at h)).mono ?_
      rintro e w2 ⟨rfl, hb2⟩
      go_wp2_with fail
      refine (MP.out _).mono ?_
      rintro e w5 ⟨rfl, hb5'⟩
      have hb5 := chain hb5' hb2
      have D6 := (hb5.mono hB).alloc (Nat.le_trans hB hb5.size) (.cells #[.int .u16 (a : Int), .int .u16 (b : Int), .int .u8 (c : Int), .int .u8 (d : Int)] 55)
      go_wp2_with fail
      go_ret
      exact ⟨D6, rfl⟩
  · cases P with
    | none =>
      go_enter Tryz.func22, Tryz.ntmps22
      go_wp2_with fail
      refine OP.out.mono ?_
      rintro e w1 ⟨rfl, rfl⟩
      go_wp2_with fail
      refine (JO.out _ _ (fun _ => ⟨rfl, rfl⟩)).mono ?_
      rintro e w2 ⟨rfl, hb2⟩
      go_wp2_with fail
      refine (MP.out _).mono ?_
      rintro e w5 ⟨rfl, hb5'⟩
      have hb5 := chain hb5' hb2
      have D6 := (hb5.mono hB).alloc (Nat.le_trans hB hb5.size) (.cells #[.int .u16 (a : Int), .int .u16 (b : Int), .int .u8 (c : Int), .int .u8 (d : Int)] 55)
      go_wp2_with fail
      go_ret
      exact ⟨D6, rfl⟩
    | some p =>
      have he : ((er : Int) == 0) = false := by
        rcases hP with h | h
        · cases h
        · simp; omega
      go_enter Tryz.func22, Tryz.ntmps22
      go_wp2_with fail
      refine OP.out.mono ?_
      rintro e w1 ⟨rfl, rfl⟩
      go_wp2_with fail
      refine (JO.out _ _ (fun _ => ⟨rfl, rfl⟩)).mono ?_
      rintro e w2 ⟨rfl, hb2⟩
      go_wp2_with fail
      refine (MP.out _).mono ?_
      rintro e w5 ⟨rfl, hb5'⟩
      have hb5 := chain hb5' hb2
      have D6 := (hb5.mono hB).alloc (Nat.le_trans hB hb5.size) (.cells #[.int .u16 (a : Int), .int .u16 (b : Int), .int .u8 (c : Int), .int .u8 (d : Int)] 55)
      go_wp2_with fail
      go_ret
      exact ⟨D6, rfl⟩
end Go.Proofs.YtnkgjkoncglfjaaGreatDoor



namespace Go.Proofs.YtnkgjkoncglfjaaGreatDoor
open Go.RowKit

theorem matP_nil : (Mt.matP []).2 ≠ 0 := by decide
theorem readRule_any (B rb g : Nat) (ds : List Dv) (ls : List Lk) (s0 : ByteArray) (r : List ByteArray) (w : World) (hB : B ≤ w.heap.size) (R : Rd B rb w ds ls) (hn : ds.length ≤ 5000) (hl : ls.length ≤ 5000) (hr : ∀ d ∈ ds, d.rules.length ≤ 5000) (G : Blk w g ((s0 :: r).map Value.string).toArray 9) (hw : r.length ≤ 5000) (hj : (Lib.join (r.map (·.data.toList)) [32]).length ≤ 1000000) :
    Calls Tryz.prog 22 #[.pointer (some ⟨rb, 0, none⟩), .slice (some ⟨g, 0, none⟩) (r.length + 1) (r.length + 1)] w fun e w' => LineOut B rb w (if ls = [] ∧ ds ≠ [] ∧ (Mt.matP (Lib.join (r.map (·.data.toList)) [32])).2 = 0 then some (addRule ds (mkRule (decide (s0.data.toList = ruleW true)) (Mt.matP (Lib.join (r.map (·.data.toList)) [32])).1), ls) else none) e w' := by
  have T := blk_texts G
  have JO : Hid (∀ A k, (¬ r.length = 0 → A = some ⟨g, 1, none⟩ ∧ k = r.length) → Calls Tryz.prog 42 #[.slice A r.length k, .string ⟨#[32]⟩] w fun e w' => e = .returned (.string ⟨(Lib.join (r.map (·.data.toList)) [32]).toArray⟩) ∧ Below w.heap.size w w') := fun A k h => by
    by_cases h0 : r.length = 0
    · obtain rfl := List.length_eq_zero_iff.1 h0
      refine (Tryz.strings_Join_none A k ⟨#[32]⟩ w).mono ?_
      rintro e w' ⟨rfl, rfl⟩
      exact ⟨rfl, Below.refl _ _⟩
    · obtain ⟨rfl, rfl⟩ := h h0
      exact join_rest g s0 r w T hw hj
  have MP : ∀ w, Calls Tryz.prog 41 #[.string ⟨(Lib.join (r.map (·.data.toList)) [32]).toArray⟩] w fun e w' => e = .returned (matV (Mt.matP (Lib.join (r.map (·.data.toList)) [32]))) ∧ Below w.heap.size w w' := fun w => by
    have := parse_any ⟨(Lib.join (r.map (·.data.toList)) [32]).toArray⟩ w (by
      have sz : ∀ l : List UInt8, (⟨l.toArray⟩ : ByteArray).size = l.length := fun l => by rw [Lib.size_eq]
      rw [sz]
      unfold maxLen
      omega)
    simpa using this
  have hlt := Mt.matP_lt (Lib.join (r.map (·.data.toList)) [32])
  have hnil : r.length = 0 → (Mt.matP (Lib.join (r.map (·.data.toList)) [32])).2 ≠ 0 := fun h => by
    obtain rfl := List.length_eq_zero_iff.1 h
    exact matP_nil
  generalize Lib.join (r.map (·.data.toList)) [32] = jl at *
  generalize Mt.matP jl = m at *
  obtain ⟨⟨a, b, c, d4⟩, er⟩ := m
  simp only at hlt hnil
  by_cases hc : ls = [] ∧ ds ≠ [] ∧ er = 0
  · obtain ⟨rfl, hd, rfl⟩ := hc
    rw [if_pos ⟨rfl, hd, rfl⟩]
    have hmk : mkRule (decide (s0.data.toList = ruleW true)) (a, b, c, d4) = ⟨decide (s0.data.toList = ruleW true), a, b, c, d4, hlt.1, hlt.2.1, hlt.2.2.1, hlt.2.2.2⟩ := by
      unfold mkRule
      rw [dif_pos hlt]
    obtain ⟨xs, vd, vl, rfl, hrb, K0, R0⟩ := R
    rcases List.eq_nil_or_concat xs with rfl | ⟨ys, x, rfl⟩
    · exact absurd rfl hd
    rw [List.concat_eq_append] at *
    obtain ⟨d, vb, vr, vt⟩ := x
    obtain ⟨A, cap, rfl⟩ := own_slice R0.dev
    obtain ⟨C, cap', rfl⟩ := own_slice R0.lnk
    obtain ⟨Ar, cr, rfl⟩ : ∃ A cap, vr = .slice A d.rules.length cap := own_slice (R0.rule (d, vb, vr, vt) (by simp))
    obtain ⟨gd, rfl⟩ := own_head R0.dev (by simp)
    have hy : ys.length ≤ 5000 := by simp at hn; omega
    have e1 : (ys ++ [(d, vb, Value.slice Ar d.rules.length cr, vt)]).length = ys.length + 1 := by simp
    rw [e1] at K0
    have R1 : RdOk B w (ys ++ [(d, vb, .slice Ar d.rules.length cr, vt)]) [] (.slice (some ⟨gd, 0, none⟩) (ys.length + 1) cap) (.slice C 0 cap') := by
      rw [e1] at R0
      exact R0
    have hok : (s0.toList == [112, 101, 114, 109, 105, 116]) = decide (s0.data.toList = ruleW true) := by
      rw [bytes_list, Bool.eq_iff_iff, beq_iff_eq, decide_eq_true_iff]
      exact Iff.rfl
    have := readRule_yes B rb g gd ys C cap cap' d vb vt Ar cr s0 r.length ⟨jl.toArray⟩ (decide (s0.data.toList = ruleW true)) a b c d4 hlt.1 hlt.2.1 hlt.2.2.1 hlt.2.2.2 _ w hB hrb K0 R1 (hr d (by simp)) hy (fun h => hnil h rfl) G (by simp) hok (JO _ _ (fun _ => ⟨rfl, rfl⟩)) MP
    have e2 : addRule ((ys ++ [(d, vb, Value.slice Ar d.rules.length cr, vt)]).map Prod.fst) (mkRule (decide (s0.data.toList = ruleW true)) (a, b, c, d4)) = ys.map Prod.fst ++ [{ d with rules := d.rules ++ [⟨decide (s0.data.toList = ruleW true), a, b, c, d4, hlt.1, hlt.2.1, hlt.2.2.1, hlt.2.2.2⟩] }] := by
      rw [hmk, List.map_append]
      exact addRule_eq _ _ _
    rw [e2]
    exact this
  · rw [if_neg hc]
    by_cases hd : ls ≠ [] ∨ ds = []
    · exact readRule_no B rb g r.length none ⟨jl.toArray⟩ a b c d4 er w hB (.inl rfl) (open_any B rb ds ls w R hn hl hd) JO MP
    · have h1 : ls = [] := Classical.not_not.1 fun h => hd (.inl h)
      have h2 : ds ≠ [] := fun h => hd (.inr h)
      have her : er ≠ 0 := fun h => hc ⟨h1, h2, h⟩
      subst h1
      obtain ⟨xs, vd, vl, rfl, hrb, K0, R0⟩ := R
      obtain ⟨A, cap, rfl⟩ := own_slice R0.dev
      obtain ⟨C, cap', rfl⟩ := own_slice R0.lnk
      rcases List.eq_nil_or_concat xs with rfl | ⟨ys, x, rfl⟩
      · exact absurd rfl h2
      rw [List.concat_eq_append] at *
      obtain ⟨gd, rfl⟩ := own_head R0.dev (by simp)
      have hy : ys.length ≤ 5000 := by simp at hn; omega
      rw [show (ys ++ [x]).length = ys.length + 1 by simp] at K0
      exact readRule_no B rb g r.length _ ⟨jl.toArray⟩ a b c d4 er w hB (.inr her) (open_last rb ys.length cap cap' gd C w (K0.cell 0 _ rfl) (K0.cell 1 _ rfl) hy) JO MP
end Go.Proofs.YtnkgjkoncglfjaaGreatDoor



namespace Go.Proofs.YtnkgjkoncglfjaaGreatDoor
open Go.RowKit

theorem LineOut.of {B rb : Nat} {w w1 w' : World} {o : Option (List Dv × List Lk)} {e : Ending} (h : LineOut B rb w1 o e w') (D : Below B w w1) : LineOut B rb w o e w' := ⟨D.trans h.1, h.2⟩
theorem line_calls {F : Nat} {args : Array Value} {B rb : Nat} {w : World} {o : Option (List Dv × List Lk)} (K : Calls Tryz.prog F args w fun e w' => LineOut B rb w o e w') : Hid (Calls Tryz.prog F args w fun e w' => ∃ b, e = .returned (.bool b) ∧ Hid (LineOut B rb w o (.returned (.bool b)) w')) := by
  refine Calls.mono K fun e w' h => ?_
  have h2 := h
  obtain ⟨_, h3⟩ := h2
  match o, h, h3 with
  | none, h, h3 =>
    subst h3
    exact ⟨false, rfl, h⟩
  | some (ds, ls), h, h3 =>
    obtain ⟨rfl, _⟩ := h3
    exact ⟨true, rfl, h⟩
theorem eq_word {s : ByteArray} {l : List UInt8} (h : s.data.toList = l) : (s.toList == l) = true := by rw [bytes_list, h]; simp
theorem ne_word {s : ByteArray} {l : List UInt8} (h : ¬ s.data.toList = l) : (s.toList == l) = false := by rw [bytes_list]; simpa using h
theorem join_bound (c : UInt8) (l h : List UInt8) (t : List (List UInt8)) (e : Mt.spl c l = h :: t) : (Lib.join t [c]).length ≤ l.length := by
  have k := join_spl c l
  rw [e] at k
  cases t with
  | nil => simp [Lib.join_nil]
  | cons x r =>
    rw [← k, Lib.join_cons, Lib.join_cons]
    simp [Lib.joinTail]
    omega
set_option maxHeartbeats 4000000 in
set_option maxRecDepth 100000 in
theorem readLine_any (B rb : Nat) (ds : List Dv) (ls : List Lk) (s : ByteArray) (w : World) (hB : B ≤ w.heap.size) (R : Rd B rb w ds ls) (hn : ds.length ≤ 5000) (hl : ls.length ≤ 5000) (hr : ∀ d ∈ ds, d.rules.length ≤ 5000) (ht : ∀ d ∈ ds, d.routes.length ≤ 5000) (hs : s.size ≤ 4096) (hD : DLn 1 w) :
    Calls Tryz.prog 8 #[.pointer (some ⟨rb, 0, none⟩), .string s] w fun e w' => LineOut B rb w (lineP ds ls (Mt.spl 32 s.data.toList)) e w' := by
  have SP : Hid (∀ w, Calls Tryz.prog 21 #[.string s, .string ⟨#[32]⟩] w fun e w' => ∃ xs : List ByteArray, Hid (xs.map (·.data.toList) = Mt.spl 32 s.data.toList) ∧ xs.length ≤ 4097 ∧ e = .returned (.slice (some ⟨w.heap.size, 0, none⟩) xs.length xs.length) ∧ w' = w.alloc (.cells (xs.map Value.string).toArray 9)) := fun w => split_wide s 32 w hs
  go_enter Tryz.func8, Tryz.ntmps8
  go_wp2_with fail
  refine (SP.out _).mono ?_
  rintro e w1 ⟨xs, hx, hxl, rfl, rfl⟩
  obtain ⟨h0, t0, e0⟩ := Mt.spl_ne 32 s.data.toList
  have hsz : ∀ x ∈ xs, x.size ≤ 4096 := fun x hm => by
    have := spl_len 32 s.data.toList x.data.toList (by rw [← hx.out]; exact List.mem_map.2 ⟨x, hm, rfl⟩)
    rw [← Lib.size_eq, ← Lib.size_eq] at this
    omega
  have hjb := join_bound 32 s.data.toList h0 t0 e0
  rw [← Lib.size_eq] at hjb
  have Al := (Below.refl w.heap.size w).alloc (Nat.le_refl _) (.cells (xs.map Value.string).toArray 9)
  have G1 := blk_new w (xs.map Value.string).toArray 9
  have R1 := R.below Al
  have D1 := hD.below Al hD.lt
  have DB := Al.mono hB
  have hB1 := Nat.le_trans hB Al.size
  match xs, hx, hxl, hsz, G1, R1, D1, DB, hB1 with
  | [], hx, _, _, _, _, _, _, _ =>
    have := hx.out
    rw [e0] at this
    cases this
  | s0 :: r, hx, hxl, hsz, G1, R1, D1, DB, hB1 =>
    have hh : s0.data.toList = h0 ∧ r.map (·.data.toList) = t0 := by
      have := hx.out
      rw [e0] at this
      simpa using this
    have HX : Hid (Mt.spl 32 s.data.toList = s0.data.toList :: r.map (·.data.toList)) := by show _ = _; rw [e0, hh.1, hh.2]
    rw [← hh.2] at hjb
    clear hx e0 hh SP R hD Al
    have T1 := blk_texts G1
    have g0 := T1.2 0 s0 rfl
    have hlen : (s0 :: r).length = r.length + 1 := by simp
    have L1 := readLink_any B rb w.heap.size ds ls (s0 :: r) _ hB1 R1 hl T1 hsz
    have L2 := readDevice_any B rb w.heap.size ds ls (s0 :: r) _ hB1 R1 hn T1 (by simp) hsz D1
    have L3 := readRoute_any B rb w.heap.size ds ls (s0 :: r) _ hB1 R1 hn hl ht T1 hsz
    have L4 := readRule_any B rb w.heap.size ds ls s0 r _ hB1 R1 hn hl hr G1 (by rw [hlen] at hxl; omega) (by omega)
    generalize w.alloc (.cells ((s0 :: r).map Value.string).toArray 9) = w1 at *
    rw [hlen] at L1 L2 L3
    simp only [List.map_cons, List.drop_one, List.tail_cons] at L1 L2 L3
    have HL : Hid (lineP ds ls (Mt.spl 32 s.data.toList) = lineP ds ls (s0.data.toList :: r.map (·.data.toList))) := by show _ = _; rw [HX.out]
    rw [lineP] at HL
    rw [hlen]
    clear HX hlen hsz T1 G1 R1 D1
    have H1 := line_calls L1
    have H2 := line_calls L2
    have H3 := line_calls L3
    have H4 := line_calls L4
    clear L1 L2 L3 L4
    have w1e : ruleW true = [112, 101, 114, 109, 105, 116] := rfl
    have w2e : ruleW false = [100, 101, 110, 121] := rfl
    have w3e : routeW = [114, 111, 117, 116, 101] := rfl
    have w4e : linkW = [108, 105, 110, 107] := rfl
    by_cases p1 : s0.data.toList = ruleW true
    · have HV := HL.out.trans (if_pos (.inl p1))
      have q1 := eq_word (p1.trans w1e)
      have HW : Hid (lineP ds ls (Mt.spl 32 s.data.toList) = _) := HV
      clear H1 H2 H3 HL HV w1e w2e w3e w4e p1
      go_wp2_with fail
      refine H4.out.mono ?_
      rintro e w2 ⟨b, rfl, h⟩
      go_wp2_with fail
      go_ret
      rw [HW.out]
      exact h.out.of DB
    · have q1 := ne_word (s := s0) (l := [112, 101, 114, 109, 105, 116]) p1
      by_cases p2 : s0.data.toList = ruleW false
      · have HV := HL.out.trans (if_pos (.inr p2))
        have q2 := eq_word (p2.trans w2e)
        have HW : Hid (lineP ds ls (Mt.spl 32 s.data.toList) = _) := HV
        clear H1 H2 H3 HL HV w1e w2e w3e w4e p1 p2
        go_wp2_with fail
        refine H4.out.mono ?_
        rintro e w2 ⟨b, rfl, h⟩
        go_wp2_with fail
        go_ret
        rw [HW.out]
        exact h.out.of DB
      · have q2 := ne_word (s := s0) (l := [100, 101, 110, 121]) p2
        have HL2 := HL.out.trans (if_neg (by rintro (h | h); exact p1 h; exact p2 h))
        by_cases p3 : s0.data.toList = routeW
        · have HV := HL2.trans (if_pos p3)
          have q3 := eq_word (p3.trans w3e)
          have HW : Hid (lineP ds ls (Mt.spl 32 s.data.toList) = _) := HV
          clear H1 H2 H4 HL HL2 HV w1e w2e w3e w4e p1 p2 p3
          go_wp2_with fail
          refine H3.out.mono ?_
          rintro e w2 ⟨b, rfl, h⟩
          go_wp2_with fail
          go_ret
          rw [HW.out]
          exact h.out.of DB
        · have q3 := ne_word (s := s0) (l := [114, 111, 117, 116, 101]) p3
          have HL3 := HL2.trans (if_neg p3)
          by_cases p4 : s0.data.toList = linkW
          · have HV := HL3.trans (if_pos p4)
            have q4 := eq_word (p4.trans w4e)
            have HW : Hid (lineP ds ls (Mt.spl 32 s.data.toList) = _) := HV
            clear H2 H3 H4 HL HL2 HL3 HV w1e w2e w3e w4e p1 p2 p3 p4
            go_wp2_with fail
            refine H1.out.mono ?_
            rintro e w2 ⟨b, rfl, h⟩
            go_wp2_with fail
            go_ret
            rw [HW.out]
            exact h.out.of DB
          · have q4 := ne_word (s := s0) (l := [108, 105, 110, 107]) p4
            have HW : Hid (lineP ds ls (Mt.spl 32 s.data.toList) = _) := HL3.trans (if_neg p4)
            clear H1 H3 H4 HL HL2 HL3 w1e w2e w3e w4e p1 p2 p3 p4
            go_wp2_with fail
            refine H2.out.mono ?_
            rintro e w2 ⟨b, rfl, h⟩
            go_wp2_with fail
            go_ret
            rw [HW.out]
            exact h.out.of DB
end Go.Proofs.YtnkgjkoncglfjaaGreatDoor



namespace Go.Proofs.YtnkgjkoncglfjaaGreatDoor
open Go.RowKit

/-- No more of anything than lines. -/
structure Few (k : Nat) (ds : List Dv) (ls : List Lk) : Prop where
  devs : ds.length ≤ k
  links : ls.length ≤ k
  rules : ∀ d ∈ ds, d.rules.length ≤ k
  routes : ∀ d ∈ ds, d.routes.length ≤ k
theorem devP_bare {ws : List (List UInt8)} {d : Dv} (h : devP ws = some d) : d.rules = [] ∧ d.routes = [] := by
  have mk : ∀ {nm k ad pl bs}, mkDv nm k ad pl bs = some d → d.rules = [] ∧ d.routes = [] := fun {nm k ad pl bs} h => by
    unfold mkDv at h
    split at h
    · obtain rfl := Option.some.inj h
      exact ⟨rfl, rfl⟩
    · cases h
  unfold devP at h
  split at h
  · split at h
    · split at h
      · exact mk h
      · split at h
        · exact mk h
        · cases h
    · cases h
  · split at h
    · split at h
      · obtain ⟨a, _, h⟩ := Option.bind_eq_some_iff.1 h
        exact mk h
      · cases h
    · cases h
  · split at h
    · split at h
      · obtain ⟨a, _, h⟩ := Option.bind_eq_some_iff.1 h
        obtain ⟨b, _, h⟩ := Option.bind_eq_some_iff.1 h
        exact mk h
      · split at h
        · obtain ⟨a, _, h⟩ := Option.bind_eq_some_iff.1 h
          obtain ⟨b, _, h⟩ := Option.bind_eq_some_iff.1 h
          exact mk h
        · cases h
    · cases h
  · cases h
theorem Few.line {k : Nat} {ds ds' : List Dv} {ls ls' : List Lk} {ws : List (List UInt8)} (h : Few k ds ls) (e : lineP ds ls ws = some (ds', ls')) : Few (k + 1) ds' ls' := by
  obtain ⟨h1, h2, h3, h4⟩ := h
  have up3 : ∀ d ∈ ds, d.rules.length ≤ k + 1 := fun d hd => Nat.le_succ_of_le (h3 d hd)
  have up4 : ∀ d ∈ ds, d.routes.length ≤ k + 1 := fun d hd => Nat.le_succ_of_le (h4 d hd)
  cases ws with
  | nil => cases e
  | cons w0 r =>
    rw [lineP] at e
    split at e
    · split at e
      · rename_i hc
        obtain ⟨rfl, hd, _⟩ := hc
        simp only [Option.some.injEq, Prod.mk.injEq] at e
        obtain ⟨rfl, rfl⟩ := e
        rcases List.eq_nil_or_concat ds with rfl | ⟨ys, x, rfl⟩
        · exact absurd rfl hd
        rw [List.concat_eq_append] at *
        rw [addRule_eq]
        refine ⟨by simpa using Nat.le_succ_of_le h1, by simp, fun d hm => ?_, fun d hm => ?_⟩
        · rcases List.mem_append.1 hm with hm | hm
          · exact up3 d (List.mem_append_left _ hm)
          · obtain rfl := List.mem_singleton.1 hm
            have := h3 x (by simp)
            simp
            omega
        · rcases List.mem_append.1 hm with hm | hm
          · exact up4 d (List.mem_append_left _ hm)
          · obtain rfl := List.mem_singleton.1 hm
            exact up4 x (by simp)
      · cases e
    · split at e
      · split at e
        · rename_i hc
          obtain ⟨rfl, hd⟩ := hc
          obtain ⟨t, _, e⟩ := Option.map_eq_some_iff.1 e
          simp only [Prod.mk.injEq] at e
          obtain ⟨rfl, rfl⟩ := e
          rcases List.eq_nil_or_concat ds with rfl | ⟨ys, x, rfl⟩
          · exact absurd rfl hd
          rw [List.concat_eq_append] at *
          rw [addRoute_eq]
          refine ⟨by simpa using Nat.le_succ_of_le h1, by simp, fun d hm => ?_, fun d hm => ?_⟩
          · rcases List.mem_append.1 hm with hm | hm
            · exact up3 d (List.mem_append_left _ hm)
            · obtain rfl := List.mem_singleton.1 hm
              exact up3 x (by simp)
          · rcases List.mem_append.1 hm with hm | hm
            · exact up4 d (List.mem_append_left _ hm)
            · obtain rfl := List.mem_singleton.1 hm
              have := h4 x (by simp)
              simp
              omega
        · cases e
      · split at e
        · obtain ⟨l, _, e⟩ := Option.map_eq_some_iff.1 e
          simp only [Prod.mk.injEq] at e
          obtain ⟨rfl, rfl⟩ := e
          exact ⟨by omega, by simp; omega, up3, up4⟩
        · split at e
          · rename_i hc
            subst hc
            obtain ⟨d, hd, e⟩ := Option.map_eq_some_iff.1 e
            simp only [Prod.mk.injEq] at e
            obtain ⟨rfl, rfl⟩ := e
            have hb := devP_bare hd
            refine ⟨by simp; omega, by simp, fun x hm => ?_, fun x hm => ?_⟩
            · rcases List.mem_append.1 hm with hm | hm
              · exact up3 x hm
              · obtain rfl := List.mem_singleton.1 hm
                rw [hb.1]
                simp
            · rcases List.mem_append.1 hm with hm | hm
              · exact up4 x hm
              · obtain rfl := List.mem_singleton.1 hm
                rw [hb.2]
                simp
          · cases e
end Go.Proofs.YtnkgjkoncglfjaaGreatDoor


