/-
  Package net: numbers with commas between; the words of a device.
-/
import Derived.Test.YtkckgoeemfjkkaaDoorPW1
import Derived.Test.YtkckgoeemfjkkaaDoorShelf
import Derived.Deep.OwnRows
namespace Go.Proofs.YtkckgoeemfjkkaaDoor
open Go.RowKit

def strsB (l : List (List UInt8)) : List Value := l.map fun p => .string ⟨p.toArray⟩
def txtB (l : List (List UInt8)) : List ByteArray := l.map fun p => ⟨p.toArray⟩
theorem txtB_back (l : List (List UInt8)) : (txtB l).map (·.data.toList) = l := by
  unfold txtB
  rw [List.map_map]
  conv => rhs; rw [← List.map_id l]
  apply List.map_congr_left
  intro a _
  simp
theorem ownsRow_belN {W W' : World} {B e size n : Nat} {v : Value} {xs : List Value} (h : W.ownsRow B e size v n xs) (hb : Below W.heap.size W W') : W'.ownsRow B e size v n xs := by
  refine ⟨h.1, ?_⟩
  rcases h.2 with k | ⟨g, cap, cur, h1, h2, h3, h4⟩
  · exact Or.inl k
  · exact Or.inr ⟨g, cap, cur, h1, h2, by rw [hb.block g (Array.getElem?_eq_some_iff.1 h3).1]; exact h3, h4⟩
theorem itoaB (x : Int) (h0 : 0 ≤ x) (h1 : x < 100) (w : World) : Calls Tryd.prog 15 #[.int .i64 x] w fun e w' => e = .returned (.string ⟨(dcB x).toArray⟩) ∧ w' = w := by
  obtain ⟨n, rfl⟩ : ∃ n : Nat, x = (n : Int) := ⟨x.toNat, by omega⟩
  have := Tryd.strconv_Itoa_small n (by omega) w
  unfold dcB
  rw [Int.toNat_natCast]
  exact this
def rowF (l : List Int) (k : Nat) (j : Nat) : Value := if j < k then .string ⟨(dcB (l.getD j 0)).toArray⟩ else .string ⟨#[]⟩
set_option maxHeartbeats 4000000 in
set_option maxRecDepth 100000 in
theorem printNums_any (v : Value) (l : List Int) (w : World) (hB : Hid (SlAt w.heap.size w 1 IsI v l)) (hl : l.length ≤ 8) (hx : Hid (∀ x ∈ l, 0 ≤ x ∧ x < 100)) :
    Calls Tryd.prog 37 #[v] w fun e w' => e = .returned (.string ⟨(numsT l).toArray⟩) ∧ Below w.heap.size w w' := by
  obtain ⟨A, cap, rfl, _, h1, h2, _⟩ := id hB.out
  unfold maxLen at h2
  have mk := fun w => run_make_row' (P := Tryd.prog) 50 9 (.string ⟨#[]⟩) 16 Tryd.underlying50 Tryd.infoStrN rfl .i64 .i64 l.length (by omega) (by omega) w
  have D0 := Below.alN (Below.refl w.heap.size w) (.cells (madeCells #[.string ⟨#[]⟩] l.length) 9)
  have R0 : (w.alloc (.cells (madeCells #[.string ⟨#[]⟩] l.length) 9)).rowIs w.heap.size 9 l.length (rowF l 0) := (World.rowIs_made w (.string ⟨#[]⟩) l.length 9).congr (fun i _ => by unfold rowF; simp)
  have JO : Hid (∀ W, Below w.heap.size w W → W.rowIs w.heap.size 9 l.length (rowF l l.length) → Calls Tryd.prog 33 #[.slice (some ⟨w.heap.size, 0, none⟩) l.length l.length, .string ⟨#[44]⟩] W fun e w' => e = .returned (.string ⟨(numsT l).toArray⟩) ∧ Below W.heap.size W w') := fun W h hr => by
    have hlen : (txtB (l.map dcB)).length = l.length := by simp [txtB]
    have := Tryd.strings_Join w.heap.size 0 l.length (txtB (l.map dcB)) ⟨#[44]⟩ W (fun j x hj => by
      have hjl : j < l.length := by
        have := (List.getElem?_eq_some_iff.1 hj).1
        omega
      rw [Nat.zero_add, hr.cell hjl]
      unfold rowF
      rw [if_pos hjl]
      unfold txtB at hj
      rw [List.map_map, List.getElem?_map, List.getElem?_eq_getElem hjl] at hj
      obtain rfl := Option.some.inj hj
      rw [List.getD_eq_getElem?_getD, List.getElem?_eq_getElem hjl]
      rfl) hr.lt (by omega) (by omega) (by
        rw [txtB_back]
        have := numsT_len (l := l) (fun x h => (hx.out x h).2) hl
        unfold numsT at this
        show (Lib.join (l.map dcB) [44]).length ≤ _
        omega)
    rw [hlen, txtB_back] at this
    exact this
  generalize numsT l = tx at *
  go_enter Tryd.func37, Tryd.ntmps37
  go_wp2_with fail
  go_loopw [11] (fun i wr => ∃ k : Nat, i = .int .i64 (k : Int) ∧ k ≤ l.length ∧ Below w.heap.size w wr ∧ wr.rowIs w.heap.size 9 l.length (rowF l k)) (fun i _ => l.length - (intOf i).toNat)
  case atStart => exact ⟨0, rfl, by omega, D0, R0⟩
  case round =>
    clear D0 R0
    obtain ⟨k, rfl, hk, D1, R1⟩ := hrel
    by_cases hlt : k < l.length
    · obtain ⟨x, hxk⟩ : ∃ x, l[k]? = some x := ⟨_, List.getElem?_eq_getElem hlt⟩
      obtain ⟨b, o, rfl, _, hcell⟩ := Ints.at (SlAt.below hB.out D1 (fun _ _ _ h => h)) hxk
      have c0 := hcell k x hxk
      have hx0 := hx.out x (List.mem_of_getElem? hxk)
      have IT : Hid (∀ w, Calls Tryd.prog 15 #[.int .i64 x] w fun e w' => e = .returned (.string ⟨(dcB x).toArray⟩) ∧ w' = w) := fun w => itoaB x hx0.1 hx0.2 w
      have R2 := (R1.set k (.string ⟨(dcB x).toArray⟩)).congr (g := rowF l (k + 1)) (fun i _ => by
        unfold rowF
        by_cases e : i = k
        · subst e
          rw [if_pos rfl, if_pos (by omega), List.getD_eq_getElem?_getD, hxk]
          rfl
        · rw [if_neg e]
          by_cases h : i < k
          · rw [if_pos h, if_pos (by omega)]
          · rw [if_neg h, if_neg (by omega)])
      have D2 := D1.setCell (p := ⟨w.heap.size, k, none⟩) (Nat.le_refl _) (.string ⟨(dcB x).toArray⟩)
      have c1 := R1.cell hlt
      have f1 := R1.frozen k
      have e1 : rowF l k k = .string ⟨#[]⟩ := by unfold rowF; rw [if_neg (by omega)]
      rw [e1] at c1
      have k1 : (0 : Int) ≤ (k : Int) := by omega
      have k2 : (k : Int) < (l.length : Int) := by omega
      have lw := R1.lt
      clear hxk hcell hB hx e1
      generalize dcB x = dx at *
      go_wp2_with (go_at_call 15; refine (IT.out _).mono ?_; rintro e w' ⟨rfl, rfl⟩)
      go_roundw
      case rel => exact ⟨k + 1, by go_num, by omega, D2, R2⟩
      case measure => simp [intOf]; omega
    · obtain rfl : k = l.length := by omega
      go_wp2_with fail
      refine (JO.out _ D1 R1).mono ?_
      rintro e w3 ⟨rfl, hb3⟩
      have D3 := chnN hb3 D1
      go_wp2_with fail
      go_ret
      exact ⟨rfl, D3⟩
/-- One word more. -/
theorem app_word {base n : Nat} {w : World} {v : Value} {ws : List (List UInt8)} (p : List UInt8) (h : w.ownsRow base 9 1 v ws.length (strsB ws)) (hn : ws.length = n) (h4 : n ≤ 4) (hb : base ≤ w.heap.size) :
    ∃ v' w', (Builtin.append_ #[50, 50] 50 #[v, .slice (some ⟨w.heap.size, 0, none⟩) 1 1]).run Tryd.prog (w.alloc (.cells #[.string ⟨p.toArray⟩] 9)) = .ok v' w' ∧ w'.ownsRow base 9 1 v' (ws ++ [p]).length (strsB (ws ++ [p])) ∧ Below base w w' := by
  obtain ⟨v2, w2, r2, O2, hb2⟩ := app_new (t := 50) (e := 9) Tryd.underlying50 Tryd.infoStrN rfl (by omega) 50 h (u := .string ⟨p.toArray⟩) rfl (by omega) hb
  refine ⟨v2, w2, r2, ?_, hb2⟩
  have e2 : strsB (ws ++ [p]) = strsB ws ++ [.string ⟨p.toArray⟩] := by simp [strsB]
  rw [e2, List.length_append]
  exact O2
theorem two_words (w : World) (base : Nat) (a b : List UInt8) (h : base ≤ w.heap.size) : (w.alloc (.cells #[.string ⟨a.toArray⟩, .string ⟨b.toArray⟩] 9)).ownsRow base 9 1 (.slice (some ⟨w.heap.size, 0, none⟩) 2 2) [a, b].length (strsB [a, b]) :=
  ⟨rfl, .inr ⟨w.heap.size, 2, _, rfl, h, Go.heap_alloc_new w _, Nat.le_refl _, by unfold maxLen; omega, rfl, rfl⟩⟩
end Go.Proofs.YtkckgoeemfjkkaaDoor
