/-
  Package net: words of a device: the ports of a pool, a rule's word, a kind's word.
-/
import Derived.Test.YtkckgoeemfjkkaaDoorNT
import Derived.Test.YtkckgoeemfjkkaaDoorNA
import Derived.Test.YtkckgoeemfjkkaaDoorRF
namespace Go.Proofs.YtkckgoeemfjkkaaDoor
open Go.RowKit

/-- append, of one cell that was just laid, to a row of the call's own. -/
theorem app_new {t e : TypeId} {z : Value} {bytes : Nat} (hu : Tryd.prog.underlying t = some (.slice e)) (hinfo : (Tryd.prog.info? e).map (fun i => (i.zero, i.size, i.bytes)) = some (some z, 1, bytes)) (hz1 : z.cells = #[z])  (hby2 : bytes ≤ 16)
    {base n : Nat} {w : World} {v u : Value} {xs : List Value} (ty : TypeId) (h : w.ownsRow base e 1 v n xs) (hu1 : u.oneCell' = true) (hn : n ≤ 1000) (hb : base ≤ w.heap.size) :
    ∃ v' w', (Builtin.append_ #[t, t] ty #[v, .slice (some ⟨w.heap.size, 0, none⟩) 1 1]).run Tryd.prog (w.alloc (.cells #[u] e)) = .ok v' w' ∧ w'.ownsRow base e 1 v' (n + 1) (xs ++ [u]) ∧ Below base w w' := by
  obtain ⟨i0, hi, hz0, hz1', hz2⟩ := info_parts hinfo
  have hA : Below w.heap.size w (w.alloc (.cells #[u] e)) := (Below.refl _ _).alloc (Nat.le_refl _) _
  have ho : (w.alloc (.cells #[u] e)).ownsRow base e 1 v n xs := by
    refine ⟨h.1, ?_⟩
    rcases h.2 with k | ⟨g, cap, cur, h1, h2, h3, h4⟩
    · exact Or.inl k
    · exact Or.inr ⟨g, cap, cur, h1, h2, by rw [hA.block g (Array.getElem?_eq_some_iff.1 h3).1]; exact h3, h4⟩
  obtain ⟨v', w', hr, h4, h5, _⟩ := run_append_own (P := Tryd.prog) (w.alloc (.cells #[u] e)) base t ty e i0 z 1 bytes hu hi hz0 hz1' hz2 (by rw [hz1]; rfl) (by decide) v n xs ho ⟨w.heap.size, 0, none⟩ 1 1 [u] rfl (fun j x hj => by
    match j, hj with
    | 0, hj => obtain rfl := Option.some.inj hj; simp [Addr.add, go_sem]) (fun x hx => by
      simp only [List.mem_cons, List.not_mem_nil, or_false] at hx
      subst hx
      exact hu1) (by unfold maxLen; omega) (by
      have : (n + 1) * bytes ≤ 1001 * 16 := Nat.mul_le_mul (by omega) hby2
      omega) (by simp; omega)
  refine ⟨v', w', hr, h4, ?_⟩
  refine ((Below.refl base w).alloc hb (.cells #[u] e)).grown h5 (by simp; omega) (fun k e => (ho.lt k e).1)
theorem Tryd.infoIntN : (Tryd.prog.info? 3).map (fun i => (i.zero, i.size, i.bytes)) = some (some (.int .i64 0), 1, 8) := by kernel_rfl
theorem Tryd.infoStrN : (Tryd.prog.info? 9).map (fun i => (i.zero, i.size, i.bytes)) = some (some (.string ⟨#[]⟩), 1, 16) := by kernel_rfl
def intsC (l : List Int) : List Value := l.map fun x => .int .i64 x
theorem ints_own {base : Nat} {w : World} {t : TypeId} {v : Value} {xs : List Int} (h : w.ownsRow base t 1 v xs.length (intsC xs)) : SlAt w.heap.size w 1 IsI v xs := by
  have hh := h
  obtain ⟨hl, hc⟩ := h
  rcases hc with ⟨rfl, h0⟩ | ⟨g, cap, cur, rfl, hb, hg, hn, hcap, hs, ht⟩
  · exact ⟨none, 0, by rw [h0], fun _ => rfl, by omega, by unfold maxLen; omega, fun hn => absurd (List.length_eq_zero_iff.1 h0) hn⟩
  · refine ⟨_, cap, rfl, (fun e => by cases e), hn, hcap, fun _ => ⟨g, 0, rfl, (Array.getElem?_eq_some_iff.1 hg).1, fun k x hk => ⟨[.int .i64 x], rfl, rfl, fun j u hj => ?_⟩⟩⟩
    match j, hj with
    | 0, hj =>
      obtain rfl := Option.some.inj hj
      have := hh.cells (g := g) rfl k (.int .i64 x) (by unfold intsC; rw [List.getElem?_map, hk]; rfl)
      rw [Addr.add_lit] at this
      simpa using this
def poolU (pl k : Nat) : List Int := ((List.range k).filter fun j => pl.testBit j).map fun j : Nat => (j : Int)
theorem poolU_succ (pl k : Nat) : poolU pl (k + 1) = if pl.testBit k then poolU pl k ++ [(k : Int)] else poolU pl k := by
  unfold poolU
  rw [List.range_succ, List.filter_append, List.map_append]
  split
  · rename_i h; simp [h]
  · rename_i h; simp [h]
theorem poolU_len (pl k : Nat) : (poolU pl k).length ≤ k := by
  unfold poolU
  rw [List.length_map]
  exact Nat.le_trans (List.length_filter_le _ _) (by simp)
theorem bit8 (pl k : Nat) (h : pl < 256) : (Go.bits .and .u8 ((pl : Int) / 2 ^ k) 1 == 1) = pl.testBit k := by
  have e1 : ((pl : Int) / 2 ^ k) = ((pl / 2 ^ k : Nat) : Int) := by simp
  rw [e1]
  have hq : pl / 2 ^ k < 256 := Nat.lt_of_le_of_lt (Nat.div_le_self _ _) h
  rw [Nat.testBit_eq_decide_div_mod_eq]
  generalize pl / 2 ^ k = q at *
  clear e1 h
  revert q
  decide +kernel
set_option maxHeartbeats 4000000 in
set_option maxRecDepth 100000 in
theorem portsIn_any (pl : Nat) (w : World) (h : pl < 256) : Calls Tryd.prog 38 #[.int .u8 (pl : Int)] w fun e w' => ∃ v, e = .returned v ∧ w'.ownsRow w.heap.size 3 1 v (poolL pl).length (intsC (poolL pl)) ∧ Below w.heap.size w w' := by
  go_enter Tryd.func38, Tryd.ntmps38
  go_wp2_with fail
  go_loopw [3, 5] (fun v i wr => ∃ k : Nat, i = .int .i64 (k : Int) ∧ k ≤ 8 ∧ wr.ownsRow w.heap.size 3 1 v (poolU pl k).length (intsC (poolU pl k)) ∧ Below w.heap.size w wr) (fun _ i _ => 8 - (intOf i).toNat)
  case atStart => exact ⟨0, rfl, by omega, ⟨rfl, .inl ⟨rfl, rfl⟩⟩, Below.refl _ _⟩
  case round =>
    obtain ⟨k, rfl, hk, O1, D1⟩ := hrel
    by_cases hlt : k < 8
    · have k1 : (0 : Int) ≤ (k : Int) := by omega
      have k2 : (k : Int) < 8 := by omega
      have hb := bit8 pl k h
      have HS := poolU_succ pl k
      have hl := poolU_len pl k
      cases ht : pl.testBit k
      · rw [ht] at hb HS
        have HS2 : poolU pl (k + 1) = poolU pl k := HS
        have O2 : wr.ownsRow w.heap.size 3 1 u3 (poolU pl (k + 1)).length (intsC (poolU pl (k + 1))) := by rw [HS2]; exact O1
        clear HS HS2 O1 ht hl
        go_wp2_with fail
        go_roundw
        case rel => exact ⟨k + 1, by go_num, by omega, O2, D1⟩
        case measure => simp [intOf]; omega
      · rw [ht] at hb HS
        have HS2 : poolU pl (k + 1) = poolU pl k ++ [(k : Int)] := HS
        obtain ⟨v2, w2, r2, O2, hb2⟩ := app_new (t := 37) (e := 3) Tryd.underlying37 Tryd.infoIntN rfl (by omega) 37 O1 (u := .int .i64 (k : Int)) rfl (by omega) D1.size
        have O3 : w2.ownsRow w.heap.size 3 1 v2 (poolU pl (k + 1)).length (intsC (poolU pl (k + 1))) := by
          rw [HS2]
          have e : (poolU pl k ++ [(k : Int)]).length = (poolU pl k).length + 1 := by simp
          rw [e]
          have e2 : intsC (poolU pl k ++ [(k : Int)]) = intsC (poolU pl k) ++ [.int .i64 (k : Int)] := by simp [intsC]
          rw [e2]
          exact O2
        have D2 := D1.trans hb2
        clear HS HS2 O1 O2 ht hl D1 hb2
        go_wp2_with (at_builtin; refine append_run2 rfl _ _ 37 rfl rfl rfl r2 ?_)
        go_roundw
        case rel => first | exact ⟨k + 1, by go_num, by omega, O3, D2⟩ | ((repeat apply Exists.intro); exact ⟨⟨k + 1, by go_num, by omega, O3, D2⟩, rfl⟩)
        case measure => simp [intOf]; omega
    · obtain rfl : k = 8 := by omega
      go_wp2_with fail
      go_ret
      exact ⟨_, rfl, O1, D1⟩
set_option maxHeartbeats 1000000 in
theorem ruleWord_any (ok : Bool) (a b c d : Nat) (w : World) : Calls Tryd.prog 21 #[.agg #[.bool ok, .int .u16 (a : Int), .int .u16 (b : Int), .int .u8 (c : Int), .int .u8 (d : Int)]] w fun e w' => e = .returned (.string ⟨(ruleW ok).toArray⟩) ∧ Below w.heap.size w w' := by
  have D0 := Below.alN (Below.refl w.heap.size w) (.cells #[.bool ok, .int .u16 (a : Int), .int .u16 (b : Int), .int .u8 (c : Int), .int .u8 (d : Int)] 57)
  cases ok
  · go_enter Tryd.func21, Tryd.ntmps21
    go_wp2_with fail
    go_ret
    exact ⟨rfl, D0⟩
  · go_enter Tryd.func21, Tryd.ntmps21
    go_wp2_with fail
    go_ret
    exact ⟨rfl, D0⟩
/-- The table of the kinds' words, where it lies. -/
def linesC : Array Value := #[.string ⟨#[104, 111, 115, 116]⟩, .int .i64 1, .int .i64 3, .string ⟨#[114, 111, 117, 116, 101, 114]⟩, .int .i64 2, .int .i64 2, .string ⟨#[102, 105, 114, 101]⟩, .int .i64 3, .int .i64 2, .string ⟨#[110, 97, 116]⟩, .int .i64 4, .int .i64 4, .string ⟨#[108, 98]⟩, .int .i64 5, .int .i64 4]
def DLn (g : Nat) (w : World) : Prop := ∃ t fr, w.heap[g]? = some (.cells linesC t fr)
theorem DLn.lt {g : Nat} {w : World} (h : DLn g w) : g < w.heap.size := by
  obtain ⟨t, fr, h⟩ := h
  exact (Array.getElem?_eq_some_iff.1 h).1
theorem DLn.below {g B : Nat} {w w' : World} (h : DLn g w) (hb : Below B w w') (hg : g < B) : DLn g w' := by
  obtain ⟨t, fr, h⟩ := h
  exact ⟨t, fr, (hb.block g hg).trans h⟩
set_option maxHeartbeats 4000000 in
set_option maxRecDepth 100000 in
theorem kindWord_any (k : Int) (w : World) (hk : 1 ≤ k ∧ k ≤ 5) (hD : DLn 0 w) : Calls Tryd.prog 35 #[.int .i64 k] w fun e w' => e = .returned (.string ⟨(kwB k).toArray⟩) ∧ Below w.heap.size w w' := by
  obtain ⟨tt, fr, hg⟩ := hD
  have i0 : ∀ w, (Instr.index 101 (.agg linesC) (.int .i64 0)).run Tryd.prog w = .ok (.agg #[.string ⟨#[104, 111, 115, 116]⟩, .int .i64 1, .int .i64 3]) w := fun _ => by kernel_rfl
  have i1 : ∀ w, (Instr.index 101 (.agg linesC) (.int .i64 1)).run Tryd.prog w = .ok (.agg #[.string ⟨#[114, 111, 117, 116, 101, 114]⟩, .int .i64 2, .int .i64 2]) w := fun _ => by kernel_rfl
  have i2 : ∀ w, (Instr.index 101 (.agg linesC) (.int .i64 2)).run Tryd.prog w = .ok (.agg #[.string ⟨#[102, 105, 114, 101]⟩, .int .i64 3, .int .i64 2]) w := fun _ => by kernel_rfl
  have i3 : ∀ w, (Instr.index 101 (.agg linesC) (.int .i64 3)).run Tryd.prog w = .ok (.agg #[.string ⟨#[110, 97, 116]⟩, .int .i64 4, .int .i64 4]) w := fun _ => by kernel_rfl
  have i4 : ∀ w, (Instr.index 101 (.agg linesC) (.int .i64 4)).run Tryd.prog w = .ok (.agg #[.string ⟨#[108, 98]⟩, .int .i64 5, .int .i64 4]) w := fun _ => by kernel_rfl
  have hkk : k = 1 ∨ k = 2 ∨ k = 3 ∨ k = 4 ∨ k = 5 := by omega
  clear hk
  rcases hkk with rfl | rfl | rfl | rfl | rfl
  · go_enter Tryd.func35, Tryd.ntmps35
    go_wp2_with (refine wpList_load_row rfl 101 _ rfl 0 rfl tt _ fr _ hg Tryd.underlying101 rfl (by kernel_rfl) ?_)
    go_loopw [6] (fun i wr => ∃ j : Nat, i = .int .i64 (j : Int) ∧ Below w.heap.size w wr ∧ (j : Int) < 1) (fun i _ => 8 - (intOf i).toNat)
    case atStart => exact ⟨0, rfl, Below.refl _ _, by decide⟩
    case round =>
      obtain ⟨j, rfl, D1, hj⟩ := hrel
      have hjj : j = 0 ∨ j = 1 ∨ j = 2 ∨ j = 3 ∨ j = 4 := by omega
      clear hg
      rcases hjj with rfl | rfl | rfl | rfl | rfl
      all_goals
        first
          | (exfalso; revert hj; decide)
          | (go_wp2_with fail
             go_ret
             exact ⟨rfl, Below.alN D1 _⟩)
          | (go_wp2_with fail
             go_roundw
             case rel => first | exact ⟨_, rfl, Below.alN D1 _, by decide⟩ | ((repeat apply Exists.intro); exact ⟨⟨_, rfl, Below.alN D1 _, by decide⟩, rfl⟩)
             case measure => simp [intOf])
  · go_enter Tryd.func35, Tryd.ntmps35
    go_wp2_with (refine wpList_load_row rfl 101 _ rfl 0 rfl tt _ fr _ hg Tryd.underlying101 rfl (by kernel_rfl) ?_)
    go_loopw [6] (fun i wr => ∃ j : Nat, i = .int .i64 (j : Int) ∧ Below w.heap.size w wr ∧ (j : Int) < 2) (fun i _ => 8 - (intOf i).toNat)
    case atStart => exact ⟨0, rfl, Below.refl _ _, by decide⟩
    case round =>
      obtain ⟨j, rfl, D1, hj⟩ := hrel
      have hjj : j = 0 ∨ j = 1 ∨ j = 2 ∨ j = 3 ∨ j = 4 := by omega
      clear hg
      rcases hjj with rfl | rfl | rfl | rfl | rfl
      all_goals
        first
          | (exfalso; revert hj; decide)
          | (go_wp2_with fail
             go_ret
             exact ⟨rfl, Below.alN D1 _⟩)
          | (go_wp2_with fail
             go_roundw
             case rel => first | exact ⟨_, rfl, Below.alN D1 _, by decide⟩ | ((repeat apply Exists.intro); exact ⟨⟨_, rfl, Below.alN D1 _, by decide⟩, rfl⟩)
             case measure => simp [intOf])
  · go_enter Tryd.func35, Tryd.ntmps35
    go_wp2_with (refine wpList_load_row rfl 101 _ rfl 0 rfl tt _ fr _ hg Tryd.underlying101 rfl (by kernel_rfl) ?_)
    go_loopw [6] (fun i wr => ∃ j : Nat, i = .int .i64 (j : Int) ∧ Below w.heap.size w wr ∧ (j : Int) < 3) (fun i _ => 8 - (intOf i).toNat)
    case atStart => exact ⟨0, rfl, Below.refl _ _, by decide⟩
    case round =>
      obtain ⟨j, rfl, D1, hj⟩ := hrel
      have hjj : j = 0 ∨ j = 1 ∨ j = 2 ∨ j = 3 ∨ j = 4 := by omega
      clear hg
      rcases hjj with rfl | rfl | rfl | rfl | rfl
      all_goals
        first
          | (exfalso; revert hj; decide)
          | (go_wp2_with fail
             go_ret
             exact ⟨rfl, Below.alN D1 _⟩)
          | (go_wp2_with fail
             go_roundw
             case rel => first | exact ⟨_, rfl, Below.alN D1 _, by decide⟩ | ((repeat apply Exists.intro); exact ⟨⟨_, rfl, Below.alN D1 _, by decide⟩, rfl⟩)
             case measure => simp [intOf])
  · go_enter Tryd.func35, Tryd.ntmps35
    go_wp2_with (refine wpList_load_row rfl 101 _ rfl 0 rfl tt _ fr _ hg Tryd.underlying101 rfl (by kernel_rfl) ?_)
    go_loopw [6] (fun i wr => ∃ j : Nat, i = .int .i64 (j : Int) ∧ Below w.heap.size w wr ∧ (j : Int) < 4) (fun i _ => 8 - (intOf i).toNat)
    case atStart => exact ⟨0, rfl, Below.refl _ _, by decide⟩
    case round =>
      obtain ⟨j, rfl, D1, hj⟩ := hrel
      have hjj : j = 0 ∨ j = 1 ∨ j = 2 ∨ j = 3 ∨ j = 4 := by omega
      clear hg
      rcases hjj with rfl | rfl | rfl | rfl | rfl
      all_goals
        first
          | (exfalso; revert hj; decide)
          | (go_wp2_with fail
             go_ret
             exact ⟨rfl, Below.alN D1 _⟩)
          | (go_wp2_with fail
             go_roundw
             case rel => first | exact ⟨_, rfl, Below.alN D1 _, by decide⟩ | ((repeat apply Exists.intro); exact ⟨⟨_, rfl, Below.alN D1 _, by decide⟩, rfl⟩)
             case measure => simp [intOf])
  · go_enter Tryd.func35, Tryd.ntmps35
    go_wp2_with (refine wpList_load_row rfl 101 _ rfl 0 rfl tt _ fr _ hg Tryd.underlying101 rfl (by kernel_rfl) ?_)
    go_loopw [6] (fun i wr => ∃ j : Nat, i = .int .i64 (j : Int) ∧ Below w.heap.size w wr ∧ (j : Int) < 5) (fun i _ => 8 - (intOf i).toNat)
    case atStart => exact ⟨0, rfl, Below.refl _ _, by decide⟩
    case round =>
      obtain ⟨j, rfl, D1, hj⟩ := hrel
      have hjj : j = 0 ∨ j = 1 ∨ j = 2 ∨ j = 3 ∨ j = 4 := by omega
      clear hg
      rcases hjj with rfl | rfl | rfl | rfl | rfl
      all_goals
        first
          | (exfalso; revert hj; decide)
          | (go_wp2_with fail
             go_ret
             exact ⟨rfl, Below.alN D1 _⟩)
          | (go_wp2_with fail
             go_roundw
             case rel => first | exact ⟨_, rfl, Below.alN D1 _, by decide⟩ | ((repeat apply Exists.intro); exact ⟨⟨_, rfl, Below.alN D1 _, by decide⟩, rfl⟩)
             case measure => simp [intOf])
end Go.Proofs.YtkckgoeemfjkkaaDoor
