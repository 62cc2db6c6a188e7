/-
  Package net: numbers with commas between; the words of a device.
-/
import Derived.Test.YthofdiacncgbkaaGreatDoorPW1
import Derived.Test.YthofdiacncgbkaaGreatDoorShelf
import Derived.Deep.OwnRows
namespace Go.Proofs.YthofdiacncgbkaaGreatDoor
open Go.RowKit

def strsB (l : List (List UInt8)) : List Value := l.map fun p => .string ⟨p.toArray⟩
def txtB (l : List (List UInt8)) : List ByteArray := l.map fun p => ⟨p.toArray⟩
theorem txtB_back (l : List (List UInt8)) : (txtB l).map (·.data.toList) = l := by
  unfold txtB
  rw [List.map_map]
  conv => rhs; rw [← List.map_id l]
  apply List.map_congr_left
  intro a _
  simp
theorem ownsRow_belN {W W' : World} {B e size n : Nat} {v : Value} {xs : List Value} (h : W.ownsRow B e size v n xs) (hb : Below W.heap.size W W') : W'.ownsRow B e size v n xs := by
  refine ⟨h.1, ?_⟩
  rcases h.2 with k | ⟨g, cap, cur, h1, h2, h3, h4⟩
  · exact Or.inl k
  · exact Or.inr ⟨g, cap, cur, h1, h2, by rw [hb.block g (Array.getElem?_eq_some_iff.1 h3).1]; exact h3, h4⟩
theorem itoaB (x : Int) (h0 : 0 ≤ x) (h1 : x < 100) (w : World) : Calls Tryz.prog 26 #[.int .i64 x] w fun e w' => e = .returned (.string ⟨(dcB x).toArray⟩) ∧ w' = w := by
  obtain ⟨n, rfl⟩ : ∃ n : Nat, x = (n : Int) := ⟨x.toNat, by omega⟩
  have := Tryz.strconv_Itoa_small n (by omega) w
  unfold dcB
  rw [Int.toNat_natCast]
  exact this
def rowF (l : List Int) (k : Nat) (j : Nat) : Value := if j < k then .string ⟨(dcB (l.getD j 0)).toArray⟩ else .string ⟨#[]⟩
set_option maxHeartbeats 4000000 in
set_option maxRecDepth 100000 in
theorem printNums_any (v : Value) (l : List Int) (w : World) (hB : Hid (SlAt w.heap.size w 1 IsI v l)) (hl : l.length ≤ 8) (hx : Hid (∀ x ∈ l, 0 ≤ x ∧ x < 100)) :
    Calls Tryz.prog 51 #[v] w fun e w' => e = .returned (.string ⟨(numsT l).toArray⟩) ∧ Below w.heap.size w w' := by
  obtain ⟨A, cap, rfl, _, h1, h2, _⟩ := id hB.out
  unfold maxLen at h2
  have mk := fun w => run_make_row' (P := Tryz.prog) 44 9 (.string ⟨#[]⟩) 16 Tryz.underlying44 Tryz.infoStrN rfl .i64 .i64 l.length (by omega) (by omega) w
  have D0 := Below.alN (Below.refl w.heap.size w) (.cells (madeCells #[.string ⟨#[]⟩] l.length) 9)
  have R0 : (w.alloc (.cells (madeCells #[.string ⟨#[]⟩] l.length) 9)).rowIs w.heap.size 9 l.length (rowF l 0) := (World.rowIs_made w (.string ⟨#[]⟩) l.length 9).congr (fun i _ => by unfold rowF; simp)
  have JO : Hid (∀ W, Below w.heap.size w W → W.rowIs w.heap.size 9 l.length (rowF l l.length) → Calls Tryz.prog 47 #[.slice (some ⟨w.heap.size, 0, none⟩) l.length l.length, .string ⟨#[44]⟩] W fun e w' => e = .returned (.string ⟨(numsT l).toArray⟩) ∧ Below W.heap.size W w') := fun W h hr => by
    have hlen : (txtB (l.map dcB)).length = l.length := by simp [txtB]
    have := Tryz.strings_Join w.heap.size 0 l.length (txtB (l.map dcB)) ⟨#[44]⟩ W (fun j x hj => by
      have hjl : j < l.length := by
        have := (List.getElem?_eq_some_iff.1 hj).1
        omega
      rw [Nat.zero_add, hr.cell hjl]
      unfold rowF
      rw [if_pos hjl]
      unfold txtB at hj
      rw [List.map_map, List.getElem?_map, List.getElem?_eq_getElem hjl] at hj
      obtain rfl := Option.some.inj hj
      rw [List.getD_eq_getElem?_getD, List.getElem?_eq_getElem hjl]
      rfl) hr.lt (by omega) (by omega) (by
        rw [txtB_back]
        have := numsT_len (l := l) (fun x h => (hx.out x h).2) hl
        unfold numsT at this
        show (Lib.join (l.map dcB) [44]).length ≤ _
        omega)
    rw [hlen, txtB_back] at this
    exact this
  generalize numsT l = tx at *
  go_enter Tryz.func51, Tryz.ntmps51
  go_wp2_with fail
  go_loopw [11] (fun i wr => ∃ k : Nat, i = .int .i64 (k : Int) ∧ k ≤ l.length ∧ Below w.heap.size w wr ∧ wr.rowIs w.heap.size 9 l.length (rowF l k)) (fun i _ => l.length - (intOf i).toNat)
  case atStart => exact ⟨0, rfl, by omega, D0, R0⟩
  case round =>
    clear D0 R0
    obtain ⟨k, rfl, hk, D1, R1⟩ := hrel
    by_cases hlt : k < l.length
    · obtain ⟨x, hxk⟩ : ∃ x, l[k]? = some x := ⟨_, List.getElem?_eq_getElem hlt⟩
      obtain ⟨b, o, rfl, _, hcell⟩ := Ints.at (SlAt.below hB.out D1 (fun _ _ _ h => h)) hxk
      have c0 := hcell k x hxk
      have hx0 := hx.out x (List.mem_of_getElem? hxk)
      have IT : Hid (∀ w, Calls Tryz.prog 26 #[.int .i64 x] w fun e w' => e = .returned (.string ⟨(dcB x).toArray⟩) ∧ w' = w) := fun w => itoaB x hx0.1 hx0.2 w
      have R2 := (R1.set k (.string ⟨(dcB x).toArray⟩)).congr (g := rowF l (k + 1)) (fun i _ => by
        unfold rowF
        by_cases e : i = k
        · subst e
          rw [if_pos rfl, if_pos (by omega), List.getD_eq_getElem?_getD, hxk]
          rfl
        · rw [if_neg e]
          by_cases h : i < k
          · rw [if_pos h, if_pos (by omega)]
          · rw [if_neg h, if_neg (by omega)])
      have D2 := D1.setCell (p := ⟨w.heap.size, k, none⟩) (Nat.le_refl _) (.string ⟨(dcB x).toArray⟩)
      have c1 := R1.cell hlt
      have f1 := R1.frozen k
      have e1 : rowF l k k = .string ⟨#[]⟩ := by unfold rowF; rw [if_neg (by omega)]
      rw [e1] at c1
      have k1 : (0 : Int) ≤ (k : Int) := by omega
      have k2 : (k : Int) < (l.length : Int) := by omega
      have lw := R1.lt
      clear hxk hcell hB hx e1
      generalize dcB x = dx at *
      go_wp2_with (go_at_call 26; refine (IT.out _).mono ?_; rintro e w' ⟨rfl, rfl⟩)
      go_roundw
      case rel => exact ⟨k + 1, by go_num, by omega, D2, R2⟩
      case measure => simp [intOf]; omega
    · obtain rfl : k = l.length := by omega
      go_wp2_with fail
      refine (JO.out _ D1 R1).mono ?_
      rintro e w3 ⟨rfl, hb3⟩
      have D3 := chnN hb3 D1
      go_wp2_with fail
      go_ret
      exact ⟨rfl, D3⟩
/-- One word more. -/
theorem app_word {base n : Nat} {w : World} {v : Value} {ws : List (List UInt8)} (p : List UInt8) (h : w.ownsRow base 9 1 v ws.length (strsB ws)) (hn : ws.length = n) (h4 : n ≤ 4) (hb : base ≤ w.heap.size) :
    ∃ v' w', (Builtin.append_ #[44, 44] 44 #[v, .slice (some ⟨w.heap.size, 0, none⟩) 1 1]).run Tryz.prog (w.alloc (.cells #[.string ⟨p.toArray⟩] 9)) = .ok v' w' ∧ w'.ownsRow base 9 1 v' (ws ++ [p]).length (strsB (ws ++ [p])) ∧ Below base w w' := by
  obtain ⟨v2, w2, r2, O2, hb2⟩ := app_new (t := 44) (e := 9) Tryz.underlying44 Tryz.infoStrN rfl (by omega) 44 h (u := .string ⟨p.toArray⟩) rfl (by omega) hb
  refine ⟨v2, w2, r2, ?_, hb2⟩
  have e2 : strsB (ws ++ [p]) = strsB ws ++ [.string ⟨p.toArray⟩] := by simp [strsB]
  rw [e2, List.length_append]
  exact O2
theorem two_words (w : World) (base : Nat) (a b : List UInt8) (h : base ≤ w.heap.size) : (w.alloc (.cells #[.string ⟨a.toArray⟩, .string ⟨b.toArray⟩] 9)).ownsRow base 9 1 (.slice (some ⟨w.heap.size, 0, none⟩) 2 2) [a, b].length (strsB [a, b]) :=
  ⟨rfl, .inr ⟨w.heap.size, 2, _, rfl, h, Go.heap_alloc_new w _, Nat.le_refl _, by unfold maxLen; omega, rfl, rfl⟩⟩
end Go.Proofs.YthofdiacncgbkaaGreatDoor

namespace Go.Proofs.YthofdiacncgbkaaGreatDoor
open Go.RowKit

/-- Words that lie somewhere. -/
def WordsAt (w : World) (v : Value) (ws : List (List UInt8)) : Prop :=
  ∃ bk o c, v = .slice (some ⟨bk, o, none⟩) ws.length c ∧ ws.length ≤ c ∧ bk < w.heap.size ∧ ∀ (j : Nat) x, ws[j]? = some x → w.cell? ⟨bk, o + j, none⟩ = some (.string ⟨x.toArray⟩)
theorem WordsAt.own {base : Nat} {w : World} {v : Value} {ws : List (List UInt8)} (h : w.ownsRow base 9 1 v ws.length (strsB ws)) (hn : ws ≠ []) : WordsAt w v ws := by
  have hh := h
  obtain ⟨hl, hc⟩ := h
  rcases hc with ⟨rfl, h0⟩ | ⟨g, cap, cur, rfl, hb, hg, hn, hcap, hs, ht⟩
  · exact absurd (List.length_eq_zero_iff.1 h0) hn
  · refine ⟨g, 0, cap, rfl, hn, (Array.getElem?_eq_some_iff.1 hg).1, fun j x hj => ?_⟩
    have := hh.cells (g := g) rfl j (.string ⟨x.toArray⟩) (by unfold strsB; rw [List.getElem?_map, hj]; rfl)
    rw [Addr.add_lit] at this
    exact this
theorem Seven.drewW {w : World} {n : Nat} {a b c d e f g : Value} (h : Seven w n a b c d e f g) : Seven w.drew n a b c d e f g := h
theorem nm_eta (s : ByteArray) : (⟨s.data.toList.toArray⟩ : ByteArray) = s := by cases s; simp
theorem two_wordsN (w : World) (base : Nat) (a : List UInt8) (s : ByteArray) (h : base ≤ w.heap.size) : (w.alloc (.cells #[.string ⟨a.toArray⟩, .string s] 9)).ownsRow base 9 1 (.slice (some ⟨w.heap.size, 0, none⟩) 2 2) [a, s.data.toList].length (strsB [a, s.data.toList]) := by
  have := two_words w base a s.data.toList h
  rw [nm_eta] at this
  exact this
set_option maxHeartbeats 4000000 in
set_option maxRecDepth 100000 in
theorem dw_1 (nm : ByteArray) (ad : Int) (pl : Nat) (A : Option Addr) (cap : Nat) (bs : List Int) (vr vt : Value) (w : World) (hDL : DLn 0 w) (_hB : Hid (SlAt w.heap.size w 1 IsI (.slice A bs.length cap) bs)) (ha : 0 ≤ ad ∧ ad ≤ 15) (_hp : pl < 256) (_hb3 : bs.length ≤ 3) (_hbk : Hid (∀ b ∈ bs, 0 ≤ b ∧ b ≤ 15)) :
    Calls Tryz.prog 23 #[devA nm 1 ad pl (.slice A bs.length cap) vr vt] w fun e w' => ∃ v, e = .returned v ∧ WordsAt w' v [kwB 1, nm.data.toList, dcB ad] ∧ Below w.heap.size w w' := by
  have D0 := Below.alN (Below.refl w.heap.size w) (.cells #[.string nm, .int .i64 1, .int .i64 ad, .int .u8 (pl : Int), .slice A bs.length cap, vr, vt] 37)
  have V0 := seven_new w (.string nm) (.int .i64 1) (.int .i64 ad) (.int .u8 (pl : Int)) (.slice A bs.length cap) vr vt 37
  have KW : Hid (∀ W, Below w.heap.size w W → Calls Tryz.prog 49 #[.int .i64 1] W fun e w' => e = .returned (.string ⟨(kwB 1).toArray⟩) ∧ Below W.heap.size W w') := fun W h => kindWord_any 1 W (by omega) (hDL.below h hDL.lt)
  have HA : Hid (∀ w, Calls Tryz.prog 50 #[.int .i64 1] w fun e w' => e = .returned (.bool (hasAddr 1)) ∧ w' = w) := fun w => hasAddr_any 1 w
  rw [show hasAddr 1 = true from rfl] at HA
  generalize kwB 1 = kw at *
  have IT : Hid (∀ w, Calls Tryz.prog 26 #[.int .i64 ad] w fun e w' => e = .returned (.string ⟨(dcB ad).toArray⟩) ∧ w' = w) := fun w => itoaB ad ha.1 (by omega) w
  generalize dcB ad = da at *
  obtain ⟨_, q0, q1, _⟩ := id V0
  go_enter Tryz.func23, Tryz.ntmps23
  go_wp2_with fail
  go_region_held3 (fun w' => w'.cell? ⟨w.heap.size, 0, none⟩ = some (.string nm) ∧ w'.cell? ⟨w.heap.size, 1, none⟩ = some (.int .i64 1)) (go_keep) ((go_at_call 49; refine (KW.out _ D0.drew).mono ?_; rintro e w1 ⟨rfl, hb1⟩; have D1 := chnN hb1 D0.drew; have V1 := V0.drewW.below hb1 V0.1; obtain ⟨_, p0, p1, _⟩ := id V1))
  clear q0 q1 KW hb1 p0 p1
  have D2 := Below.alN D1 (.cells #[.string ⟨kw.toArray⟩, .string nm] 9)
  have V2 := V1.below ((Below.refl _ _).alloc (Nat.le_refl _) (.cells #[.string ⟨kw.toArray⟩, .string nm] 9)) V1.1
  have O2 := two_wordsN w1 (w.heap.size + 1) kw nm V1.1
  have s2 : w.heap.size + 1 ≤ (w1.alloc (.cells #[.string ⟨kw.toArray⟩, .string nm] 9)).heap.size := V2.1
  obtain ⟨_, q0, q1, q2, q3, q4, q5, q6⟩ := id V2
  clear D1 V1 V0 D0
  obtain ⟨v3, w3, r3, O3, hb3'⟩ := app_word da O2 rfl (by simp) s2
  rw [World.size_alloc] at r3
  have D3 := D2.trans (hb3'.mono (by omega))
  have V3 := V2.below hb3' (by omega)
  have s3 : w.heap.size + 1 ≤ w3.heap.size := V3.1
  obtain ⟨_, y0, y1, y2, y3, y4, y5, y6⟩ := id V3
  go_wp2_with (first | (at_builtin; refine append_run2 rfl _ _ 44 rfl rfl rfl r3 ?_) | (go_at_call 50; refine (HA.out _).mono ?_; rintro e w' ⟨rfl, rfl⟩) | (go_at_call 26; refine (IT.out _).mono ?_; rintro e w' ⟨rfl, rfl⟩))
  go_ret
  exact ⟨_, rfl, WordsAt.own O3 (by simp), D3⟩
set_option maxHeartbeats 4000000 in
set_option maxRecDepth 100000 in
theorem dw_2 (nm : ByteArray) (ad : Int) (pl : Nat) (A : Option Addr) (cap : Nat) (bs : List Int) (vr vt : Value) (w : World) (hDL : DLn 0 w) (_hB : Hid (SlAt w.heap.size w 1 IsI (.slice A bs.length cap) bs)) (_hp : pl < 256) (_hb3 : bs.length ≤ 3) (_hbk : Hid (∀ b ∈ bs, 0 ≤ b ∧ b ≤ 15)) :
    Calls Tryz.prog 23 #[devA nm 2 ad pl (.slice A bs.length cap) vr vt] w fun e w' => ∃ v, e = .returned v ∧ WordsAt w' v [kwB 2, nm.data.toList] ∧ Below w.heap.size w w' := by
  have D0 := Below.alN (Below.refl w.heap.size w) (.cells #[.string nm, .int .i64 2, .int .i64 ad, .int .u8 (pl : Int), .slice A bs.length cap, vr, vt] 37)
  have V0 := seven_new w (.string nm) (.int .i64 2) (.int .i64 ad) (.int .u8 (pl : Int)) (.slice A bs.length cap) vr vt 37
  have KW : Hid (∀ W, Below w.heap.size w W → Calls Tryz.prog 49 #[.int .i64 2] W fun e w' => e = .returned (.string ⟨(kwB 2).toArray⟩) ∧ Below W.heap.size W w') := fun W h => kindWord_any 2 W (by omega) (hDL.below h hDL.lt)
  have HA : Hid (∀ w, Calls Tryz.prog 50 #[.int .i64 2] w fun e w' => e = .returned (.bool (hasAddr 2)) ∧ w' = w) := fun w => hasAddr_any 2 w
  rw [show hasAddr 2 = false from rfl] at HA
  generalize kwB 2 = kw at *
  obtain ⟨_, q0, q1, _⟩ := id V0
  go_enter Tryz.func23, Tryz.ntmps23
  go_wp2_with fail
  go_region_held3 (fun w' => w'.cell? ⟨w.heap.size, 0, none⟩ = some (.string nm) ∧ w'.cell? ⟨w.heap.size, 1, none⟩ = some (.int .i64 2)) (go_keep) ((go_at_call 49; refine (KW.out _ D0.drew).mono ?_; rintro e w1 ⟨rfl, hb1⟩; have D1 := chnN hb1 D0.drew; have V1 := V0.drewW.below hb1 V0.1; obtain ⟨_, p0, p1, _⟩ := id V1))
  clear q0 q1 KW hb1 p0 p1
  have D2 := Below.alN D1 (.cells #[.string ⟨kw.toArray⟩, .string nm] 9)
  have V2 := V1.below ((Below.refl _ _).alloc (Nat.le_refl _) (.cells #[.string ⟨kw.toArray⟩, .string nm] 9)) V1.1
  have O2 := two_wordsN w1 (w.heap.size + 1) kw nm V1.1
  have s2 : w.heap.size + 1 ≤ (w1.alloc (.cells #[.string ⟨kw.toArray⟩, .string nm] 9)).heap.size := V2.1
  obtain ⟨_, q0, q1, q2, q3, q4, q5, q6⟩ := id V2
  clear D1 V1 V0 D0
  go_wp2_with (go_at_call 50; refine (HA.out _).mono ?_; rintro e w' ⟨rfl, rfl⟩)
  go_ret
  exact ⟨_, rfl, WordsAt.own O2 (by simp), D2⟩
set_option maxHeartbeats 4000000 in
set_option maxRecDepth 100000 in
theorem dw_3 (nm : ByteArray) (ad : Int) (pl : Nat) (A : Option Addr) (cap : Nat) (bs : List Int) (vr vt : Value) (w : World) (hDL : DLn 0 w) (_hB : Hid (SlAt w.heap.size w 1 IsI (.slice A bs.length cap) bs)) (_hp : pl < 256) (_hb3 : bs.length ≤ 3) (_hbk : Hid (∀ b ∈ bs, 0 ≤ b ∧ b ≤ 15)) :
    Calls Tryz.prog 23 #[devA nm 3 ad pl (.slice A bs.length cap) vr vt] w fun e w' => ∃ v, e = .returned v ∧ WordsAt w' v [kwB 3, nm.data.toList] ∧ Below w.heap.size w w' := by
  have D0 := Below.alN (Below.refl w.heap.size w) (.cells #[.string nm, .int .i64 3, .int .i64 ad, .int .u8 (pl : Int), .slice A bs.length cap, vr, vt] 37)
  have V0 := seven_new w (.string nm) (.int .i64 3) (.int .i64 ad) (.int .u8 (pl : Int)) (.slice A bs.length cap) vr vt 37
  have KW : Hid (∀ W, Below w.heap.size w W → Calls Tryz.prog 49 #[.int .i64 3] W fun e w' => e = .returned (.string ⟨(kwB 3).toArray⟩) ∧ Below W.heap.size W w') := fun W h => kindWord_any 3 W (by omega) (hDL.below h hDL.lt)
  have HA : Hid (∀ w, Calls Tryz.prog 50 #[.int .i64 3] w fun e w' => e = .returned (.bool (hasAddr 3)) ∧ w' = w) := fun w => hasAddr_any 3 w
  rw [show hasAddr 3 = false from rfl] at HA
  generalize kwB 3 = kw at *
  obtain ⟨_, q0, q1, _⟩ := id V0
  go_enter Tryz.func23, Tryz.ntmps23
  go_wp2_with fail
  go_region_held3 (fun w' => w'.cell? ⟨w.heap.size, 0, none⟩ = some (.string nm) ∧ w'.cell? ⟨w.heap.size, 1, none⟩ = some (.int .i64 3)) (go_keep) ((go_at_call 49; refine (KW.out _ D0.drew).mono ?_; rintro e w1 ⟨rfl, hb1⟩; have D1 := chnN hb1 D0.drew; have V1 := V0.drewW.below hb1 V0.1; obtain ⟨_, p0, p1, _⟩ := id V1))
  clear q0 q1 KW hb1 p0 p1
  have D2 := Below.alN D1 (.cells #[.string ⟨kw.toArray⟩, .string nm] 9)
  have V2 := V1.below ((Below.refl _ _).alloc (Nat.le_refl _) (.cells #[.string ⟨kw.toArray⟩, .string nm] 9)) V1.1
  have O2 := two_wordsN w1 (w.heap.size + 1) kw nm V1.1
  have s2 : w.heap.size + 1 ≤ (w1.alloc (.cells #[.string ⟨kw.toArray⟩, .string nm] 9)).heap.size := V2.1
  obtain ⟨_, q0, q1, q2, q3, q4, q5, q6⟩ := id V2
  clear D1 V1 V0 D0
  go_wp2_with (go_at_call 50; refine (HA.out _).mono ?_; rintro e w' ⟨rfl, rfl⟩)
  go_ret
  exact ⟨_, rfl, WordsAt.own O2 (by simp), D2⟩
set_option maxHeartbeats 4000000 in
set_option maxRecDepth 100000 in
theorem dw_4 (nm : ByteArray) (ad : Int) (pl : Nat) (A : Option Addr) (cap : Nat) (bs : List Int) (vr vt : Value) (w : World) (hDL : DLn 0 w) (_hB : Hid (SlAt w.heap.size w 1 IsI (.slice A bs.length cap) bs)) (ha : 0 ≤ ad ∧ ad ≤ 15) (hp : pl < 256) (_hb3 : bs.length ≤ 3) (_hbk : Hid (∀ b ∈ bs, 0 ≤ b ∧ b ≤ 15)) :
    Calls Tryz.prog 23 #[devA nm 4 ad pl (.slice A bs.length cap) vr vt] w fun e w' => ∃ v, e = .returned v ∧ WordsAt w' v [kwB 4, nm.data.toList, dcB ad, numsT (poolL pl)] ∧ Below w.heap.size w w' := by
  have D0 := Below.alN (Below.refl w.heap.size w) (.cells #[.string nm, .int .i64 4, .int .i64 ad, .int .u8 (pl : Int), .slice A bs.length cap, vr, vt] 37)
  have V0 := seven_new w (.string nm) (.int .i64 4) (.int .i64 ad) (.int .u8 (pl : Int)) (.slice A bs.length cap) vr vt 37
  have KW : Hid (∀ W, Below w.heap.size w W → Calls Tryz.prog 49 #[.int .i64 4] W fun e w' => e = .returned (.string ⟨(kwB 4).toArray⟩) ∧ Below W.heap.size W w') := fun W h => kindWord_any 4 W (by omega) (hDL.below h hDL.lt)
  have HA : Hid (∀ w, Calls Tryz.prog 50 #[.int .i64 4] w fun e w' => e = .returned (.bool (hasAddr 4)) ∧ w' = w) := fun w => hasAddr_any 4 w
  rw [show hasAddr 4 = true from rfl] at HA
  generalize kwB 4 = kw at *
  have IT : Hid (∀ w, Calls Tryz.prog 26 #[.int .i64 ad] w fun e w' => e = .returned (.string ⟨(dcB ad).toArray⟩) ∧ w' = w) := fun w => itoaB ad ha.1 (by omega) w
  have PI : Hid (∀ w, Calls Tryz.prog 52 #[.int .u8 (pl : Int)] w fun e w' => ∃ v, e = .returned v ∧ w'.ownsRow w.heap.size 3 1 v (poolL pl).length (intsC (poolL pl)) ∧ Below w.heap.size w w') := fun w => portsIn_any pl w hp
  have PN : Hid (∀ (v : Value) (base : Nat) (W : World), W.ownsRow base 3 1 v (poolL pl).length (intsC (poolL pl)) → Calls Tryz.prog 51 #[v] W fun e w' => e = .returned (.string ⟨(numsT (poolL pl)).toArray⟩) ∧ Below W.heap.size W w') := fun v base W h => printNums_any v _ W (ints_own h) (poolL_len pl) (fun x hx => by have := poolL_mem hx; omega)
  generalize numsT (poolL pl) = tx at *
  generalize dcB ad = da at *
  obtain ⟨_, q0, q1, _⟩ := id V0
  go_enter Tryz.func23, Tryz.ntmps23
  go_wp2_with fail
  go_region_held3 (fun w' => w'.cell? ⟨w.heap.size, 0, none⟩ = some (.string nm) ∧ w'.cell? ⟨w.heap.size, 1, none⟩ = some (.int .i64 4)) (go_keep) ((go_at_call 49; refine (KW.out _ D0.drew).mono ?_; rintro e w1 ⟨rfl, hb1⟩; have D1 := chnN hb1 D0.drew; have V1 := V0.drewW.below hb1 V0.1; obtain ⟨_, p0, p1, _⟩ := id V1))
  clear q0 q1 KW hb1 p0 p1
  have D2 := Below.alN D1 (.cells #[.string ⟨kw.toArray⟩, .string nm] 9)
  have V2 := V1.below ((Below.refl _ _).alloc (Nat.le_refl _) (.cells #[.string ⟨kw.toArray⟩, .string nm] 9)) V1.1
  have O2 := two_wordsN w1 (w.heap.size + 1) kw nm V1.1
  have s2 : w.heap.size + 1 ≤ (w1.alloc (.cells #[.string ⟨kw.toArray⟩, .string nm] 9)).heap.size := V2.1
  obtain ⟨_, q0, q1, q2, q3, q4, q5, q6⟩ := id V2
  clear D1 V1 V0 D0
  obtain ⟨v3, w3, r3, O3, hb3'⟩ := app_word da O2 rfl (by simp) s2
  rw [World.size_alloc] at r3
  have D3 := D2.trans (hb3'.mono (by omega))
  have V3 := V2.below hb3' (by omega)
  have s3 : w.heap.size + 1 ≤ w3.heap.size := V3.1
  obtain ⟨_, y0, y1, y2, y3, y4, y5, y6⟩ := id V3
  go_wp2_with (first | (at_builtin; refine append_run2 rfl _ _ 44 rfl rfl rfl r3 ?_) | (go_at_call 50; refine (HA.out _).mono ?_; rintro e w' ⟨rfl, rfl⟩) | (go_at_call 26; refine (IT.out _).mono ?_; rintro e w' ⟨rfl, rfl⟩))
  refine (PI.out _).mono ?_
  rintro e w4 ⟨v4, rfl, o4, hb4⟩
  have D4 := chnN hb4 D3
  have V4 := V3.below hb4 V3.1
  have O4 := ownsRow_belN O3 hb4
  clear q0 q1 q2 q3 q4 q5 q6 y0 y1 y2 y3 y4 y5 y6
  go_wp2_with fail
  refine (PN.out _ _ _ o4).mono ?_
  rintro e w5 ⟨rfl, hb5⟩
  have D5 := chnN hb5 D4
  have V5 := V4.below hb5 V4.1
  have O5 := ownsRow_belN O4 hb5
  obtain ⟨v6, w6, r6, O6, hb6⟩ := app_word tx O5 rfl (by simp) V5.1
  have D6 := D5.trans (hb6.mono (by omega))
  obtain ⟨_, z0, z1, z2, z3, z4, z5, z6⟩ := id (V5.below hb6 (by omega))
  go_wp2_with (at_builtin; refine append_run2 rfl _ _ 44 rfl rfl rfl r6 ?_)
  go_ret
  exact ⟨_, rfl, WordsAt.own O6 (by simp), D6⟩
set_option maxHeartbeats 4000000 in
set_option maxRecDepth 100000 in
theorem dw_5 (nm : ByteArray) (ad : Int) (pl : Nat) (A : Option Addr) (cap : Nat) (bs : List Int) (vr vt : Value) (w : World) (hDL : DLn 0 w) (hB : Hid (SlAt w.heap.size w 1 IsI (.slice A bs.length cap) bs)) (ha : 0 ≤ ad ∧ ad ≤ 15) (_hp : pl < 256) (hb3 : bs.length ≤ 3) (hbk : Hid (∀ b ∈ bs, 0 ≤ b ∧ b ≤ 15)) :
    Calls Tryz.prog 23 #[devA nm 5 ad pl (.slice A bs.length cap) vr vt] w fun e w' => ∃ v, e = .returned v ∧ WordsAt w' v [kwB 5, nm.data.toList, dcB ad, numsT bs] ∧ Below w.heap.size w w' := by
  have D0 := Below.alN (Below.refl w.heap.size w) (.cells #[.string nm, .int .i64 5, .int .i64 ad, .int .u8 (pl : Int), .slice A bs.length cap, vr, vt] 37)
  have V0 := seven_new w (.string nm) (.int .i64 5) (.int .i64 ad) (.int .u8 (pl : Int)) (.slice A bs.length cap) vr vt 37
  have KW : Hid (∀ W, Below w.heap.size w W → Calls Tryz.prog 49 #[.int .i64 5] W fun e w' => e = .returned (.string ⟨(kwB 5).toArray⟩) ∧ Below W.heap.size W w') := fun W h => kindWord_any 5 W (by omega) (hDL.below h hDL.lt)
  have HA : Hid (∀ w, Calls Tryz.prog 50 #[.int .i64 5] w fun e w' => e = .returned (.bool (hasAddr 5)) ∧ w' = w) := fun w => hasAddr_any 5 w
  rw [show hasAddr 5 = true from rfl] at HA
  generalize kwB 5 = kw at *
  have IT : Hid (∀ w, Calls Tryz.prog 26 #[.int .i64 ad] w fun e w' => e = .returned (.string ⟨(dcB ad).toArray⟩) ∧ w' = w) := fun w => itoaB ad ha.1 (by omega) w
  have PN : Hid (∀ (W : World), Below w.heap.size w W → Calls Tryz.prog 51 #[.slice A bs.length cap] W fun e w' => e = .returned (.string ⟨(numsT bs).toArray⟩) ∧ Below W.heap.size W w') := fun W h => printNums_any _ bs W (SlAt.mono (SlAt.below hB.out h (fun _ _ _ h => h)) h.size (fun _ _ _ h => h)) (by omega) (fun x hx => by have := hbk.out x hx; omega)
  generalize numsT bs = tx at *
  generalize dcB ad = da at *
  obtain ⟨_, q0, q1, _⟩ := id V0
  go_enter Tryz.func23, Tryz.ntmps23
  go_wp2_with fail
  go_region_held3 (fun w' => w'.cell? ⟨w.heap.size, 0, none⟩ = some (.string nm) ∧ w'.cell? ⟨w.heap.size, 1, none⟩ = some (.int .i64 5)) (go_keep) ((go_at_call 49; refine (KW.out _ D0.drew).mono ?_; rintro e w1 ⟨rfl, hb1⟩; have D1 := chnN hb1 D0.drew; have V1 := V0.drewW.below hb1 V0.1; obtain ⟨_, p0, p1, _⟩ := id V1))
  clear q0 q1 KW hb1 p0 p1
  have D2 := Below.alN D1 (.cells #[.string ⟨kw.toArray⟩, .string nm] 9)
  have V2 := V1.below ((Below.refl _ _).alloc (Nat.le_refl _) (.cells #[.string ⟨kw.toArray⟩, .string nm] 9)) V1.1
  have O2 := two_wordsN w1 (w.heap.size + 1) kw nm V1.1
  have s2 : w.heap.size + 1 ≤ (w1.alloc (.cells #[.string ⟨kw.toArray⟩, .string nm] 9)).heap.size := V2.1
  obtain ⟨_, q0, q1, q2, q3, q4, q5, q6⟩ := id V2
  clear D1 V1 V0 D0
  obtain ⟨v3, w3, r3, O3, hb3'⟩ := app_word da O2 rfl (by simp) s2
  rw [World.size_alloc] at r3
  have D3 := D2.trans (hb3'.mono (by omega))
  have V3 := V2.below hb3' (by omega)
  have s3 : w.heap.size + 1 ≤ w3.heap.size := V3.1
  obtain ⟨_, y0, y1, y2, y3, y4, y5, y6⟩ := id V3
  go_wp2_with (first | (at_builtin; refine append_run2 rfl _ _ 44 rfl rfl rfl r3 ?_) | (go_at_call 50; refine (HA.out _).mono ?_; rintro e w' ⟨rfl, rfl⟩) | (go_at_call 26; refine (IT.out _).mono ?_; rintro e w' ⟨rfl, rfl⟩))
  have D4 := D3
  have V4 := V3
  have O4 := O3
  refine (PN.out _ D3).mono ?_
  rintro e w5 ⟨rfl, hb5⟩
  have D5 := chnN hb5 D4
  have V5 := V4.below hb5 V4.1
  have O5 := ownsRow_belN O4 hb5
  obtain ⟨v6, w6, r6, O6, hb6⟩ := app_word tx O5 rfl (by simp) V5.1
  have D6 := D5.trans (hb6.mono (by omega))
  obtain ⟨_, z0, z1, z2, z3, z4, z5, z6⟩ := id (V5.below hb6 (by omega))
  go_wp2_with (at_builtin; refine append_run2 rfl _ _ 44 rfl rfl rfl r6 ?_)
  go_ret
  exact ⟨_, rfl, WordsAt.own O6 (by simp), D6⟩
theorem WordsAt.eq {w : World} {v : Value} {a b : List (List UInt8)} (h : WordsAt w v a) (e : a = b) : WordsAt w v b := by rw [← e]; exact h
/-- deviceWords. -/
theorem deviceWords_any (d : Dv) (R : RightD d) (vb vr vt : Value) (w : World) (hDL : DLn 0 w) (hb : SlAt w.heap.size w 1 IsI vb d.backs) :
    Calls Tryz.prog 23 #[devA d.name d.kind d.addr d.pool vb vr vt] w fun e w' => ∃ v, e = .returned v ∧ WordsAt w' v (devWs d) ∧ Below w.heap.size w w' := by
  obtain ⟨Ab, cb, e, _, _, _, _⟩ := id hb
  subst e
  have hk := R.kind
  have ha : 0 ≤ (if hasAddr d.kind then d.addr else 0) ∧ (if hasAddr d.kind then d.addr else 0) ≤ 15 := by
    split
    · rename_i h; exact R.addr h
    · omega
  have h3 := R.backs
  have hbk := R.back
  have hkk : d.kind = 1 ∨ d.kind = 2 ∨ d.kind = 3 ∨ d.kind = 4 ∨ d.kind = 5 := by omega
  obtain ⟨nm, k, ad, pl, bs, rs, ts, hp, hs⟩ := d
  simp only at hb ha h3 hbk hkk ⊢
  unfold devWs addrW tailW
  simp only
  rcases hkk with rfl | rfl | rfl | rfl | rfl
  · exact (dw_1 nm ad pl Ab cb bs vr vt w hDL hb ha hp h3 hbk).mono fun e w' ⟨v, h1, h2, h3⟩ => ⟨v, h1, h2.eq rfl, h3⟩
  · exact (dw_2 nm ad pl Ab cb bs vr vt w hDL hb hp h3 hbk).mono fun e w' ⟨v, h1, h2, h3⟩ => ⟨v, h1, h2.eq rfl, h3⟩
  · exact (dw_3 nm ad pl Ab cb bs vr vt w hDL hb hp h3 hbk).mono fun e w' ⟨v, h1, h2, h3⟩ => ⟨v, h1, h2.eq rfl, h3⟩
  · exact (dw_4 nm ad pl Ab cb bs vr vt w hDL hb ha hp h3 hbk).mono fun e w' ⟨v, h1, h2, h3⟩ => ⟨v, h1, h2.eq rfl, h3⟩
  · exact (dw_5 nm ad pl Ab cb bs vr vt w hDL hb ha hp h3 hbk).mono fun e w' ⟨v, h1, h2, h3⟩ => ⟨v, h1, h2.eq rfl, h3⟩
end Go.Proofs.YthofdiacncgbkaaGreatDoor

namespace Go.Proofs.YthofdiacncgbkaaGreatDoor
open Go.RowKit

/-- The builder in block b holds the text acc; what was there ahead of it lies below B. -/
def Bld (B b : Nat) (acc : List UInt8) (w : World) : Prop := Lib.IsBuilderF 68 5 B b (Lib.byteCells acc) w
theorem Bld.keep {B b : Nat} {acc : List UInt8} {w w' : World} (h : Bld B b acc w) (hb : Below w.heap.size w w') : Bld B b acc w' := by
  have go : ∀ p, Lib.BuilderAtF 68 5 B b p (Lib.byteCells acc) w → Lib.BuilderAtF 68 5 B b p (Lib.byteCells acc) w' := by
    rintro p ⟨hB, v, hv, hown, hne⟩
    refine ⟨hB, v, (hb.block b (Array.getElem?_eq_some_iff.1 hv).1).trans hv, ⟨hown.1, ?_⟩, hne⟩
    rcases hown.2 with hn | ⟨g, cap, cur, fz, hv, hbg, hg, rest⟩
    · exact .inl hn
    · exact .inr ⟨g, cap, cur, fz, hv, hbg, (hb.block g (Array.getElem?_eq_some_iff.1 hg).1).trans hg, rest⟩
  exact h.elim (fun x => .inl (go _ x)) (fun x => .inr (go _ x))
theorem kept_of_below {e : TypeId} {b : Option Nat} {w w' : World} (hb : Below w.heap.size w w') : Lib.OthersKept e b w w' := fun k _ h _ _ => (hb.block k (Array.getElem?_eq_some_iff.1 h).1).trans h
theorem byteCells_len (l : List UInt8) : (Lib.byteCells l).length = l.length := by simp [Lib.byteCells]
theorem byteCells_app (a b : List UInt8) : Lib.byteCells (a ++ b) = Lib.byteCells a ++ Lib.byteCells b := by simp [Lib.byteCells]
theorem strCells_eq (l : List UInt8) : Lib.strCells ⟨l.toArray⟩ = Lib.byteCells l := by simp [Lib.strCells, Lib.byteCells]
set_option maxHeartbeats 2000000 in
set_option maxRecDepth 100000 in
/-- printLine. -/
theorem printLine_any (B b : Nat) (acc : List UInt8) (v : Value) (ws : List (List UInt8)) (w : World) (hT : Hid (Bld B b acc w)) (hW : WordsAt w v ws) (hBw : B ≤ w.heap.size) (hlen : acc.length + (lineT ws).length ≤ 1000000) (hws : ws.length ≤ 10) :
    Calls Tryz.prog 22 #[.pointer (some ⟨b, 0, none⟩), v] w fun e w' => ∃ x, e = .returned x ∧ Bld B b (acc ++ lineT ws) w' ∧ Below B w w' ∧ Lib.OthersKept 5 (some b) w w' := by
  obtain ⟨bk, o, c, rfl, hc, hbk, hcell⟩ := hW
  have JO : Hid (Calls Tryz.prog 47 #[.slice (some ⟨bk, o, none⟩) ws.length c, .string ⟨#[32]⟩] w fun e w' => e = .returned (.string ⟨(Lib.join ws [32]).toArray⟩) ∧ Below w.heap.size w w') := by
    have hl : (txtB ws).length = ws.length := by simp [txtB]
    have := Tryz.strings_Join bk o c (txtB ws) ⟨#[32]⟩ w (fun j x hj => by
      unfold txtB at hj
      rw [List.getElem?_map] at hj
      cases hx : ws[j]? with
      | none => rw [hx] at hj; cases hj
      | some y =>
        rw [hx] at hj
        obtain rfl := Option.some.inj hj
        exact hcell j y hx) hbk (by omega) (by omega) (by
        rw [txtB_back]
        unfold lineT at hlen
        rw [List.length_append] at hlen
        show (Lib.join ws [32]).length ≤ _
        omega)
    rw [hl, txtB_back] at this
    exact this
  have WS : Hid (∀ W, Bld B b acc W → B ≤ W.heap.size → Calls Tryz.prog 46 #[.pointer (some ⟨b, 0, none⟩), .string ⟨(Lib.join ws [32]).toArray⟩] W fun e w' => ∃ x, e = .returned x ∧ (Bld B b (acc ++ Lib.join ws [32]) w' ∧ Below B W w' ∧ Lib.OthersKept 5 (some b) W w')) := fun W h hb => by
    have := Tryz.Builder_WriteString_k B b (Lib.byteCells acc) ⟨(Lib.join ws [32]).toArray⟩ W h (by
      rw [byteCells_len]
      unfold lineT at hlen
      rw [List.length_append] at hlen
      show acc.length + (Lib.join ws [32]).toArray.size ≤ _
      simp
      omega) hb
    refine this.mono fun e w' ⟨h1, h2, h3, h4⟩ => ⟨_, h1, Or.inr ?_, h3, h4⟩
    rw [strCells_eq, ← byteCells_app] at h2
    exact h2
  have WB : Hid (∀ W, Bld B b (acc ++ Lib.join ws [32]) W → B ≤ W.heap.size → Calls Tryz.prog 48 #[.pointer (some ⟨b, 0, none⟩), .int .u8 10] W fun e w' => ∃ x, e = .returned x ∧ (Bld B b (acc ++ lineT ws) w' ∧ Below B W w' ∧ Lib.OthersKept 5 (some b) W w')) := fun W h hb => by
    have := Tryz.Builder_WriteByte_k B b (Lib.byteCells (acc ++ Lib.join ws [32])) 10 W h (by
      rw [byteCells_len]
      unfold lineT at hlen
      rw [List.length_append] at hlen ⊢
      omega) hb
    refine this.mono fun e w' ⟨h1, h2, h3, h4⟩ => ⟨_, h1, Or.inr ?_, h3, h4⟩
    have e : Lib.byteCells (acc ++ Lib.join ws [32]) ++ [.int .u8 10] = Lib.byteCells (acc ++ lineT ws) := by
      unfold lineT
      rw [← List.append_assoc, byteCells_app (acc ++ Lib.join ws [32])]
      rfl
    rw [e] at h2
    exact h2
  clear hcell hlen hws
  generalize Lib.join ws [32] = jn at *
  generalize acc ++ lineT ws = fin at *
  go_enter Tryz.func22, Tryz.ntmps22
  go_wp2_with fail
  refine JO.out.mono ?_
  rintro e w1 ⟨rfl, hb1⟩
  have T1 := hT.out.keep hb1
  have K1 : Lib.OthersKept 5 (some b) w w1 := kept_of_below hb1
  have D1 : Below B w w1 := hb1.mono hBw
  have s1 := Nat.le_trans hBw hb1.size
  clear hb1
  go_wp2_with fail
  refine (WS.out _ T1 s1).mono ?_
  rintro e w2 ⟨x, rfl, T2, D2, K2⟩
  have s2 := Nat.le_trans s1 D2.size
  go_wp2_with fail
  refine (WB.out _ T2 s2).mono ?_
  rintro e w3 ⟨y, rfl, T3, D3, K3⟩
  go_wp2_with fail
  go_end0
  exact ⟨_, rfl, T3, (D1.trans D2).trans D3, (K1.trans K2).trans K3⟩
/-- A block of cells that is no row of bytes stays. -/
theorem kept_block {b k : Nat} {w w' : World} {c : Array Value} {t : TypeId} {fz : Nat × Nat} (h : Lib.OthersKept 5 (some b) w w') (hk : w.heap[k]? = some (.cells c t fz)) (hkb : k ≠ b) (ht : t ≠ 5) : w'.heap[k]? = some (.cells c t fz) :=
  h k _ hk (fun e => hkb (Option.some.inj e)) (fun c' fz' e => by cases e; exact ht rfl)
/-- What the rounds of Print keep. -/
def PS (w W : World) (b : Nat) (v1 v2 : Value) (acc : List UInt8) : Prop := Below w.heap.size w W ∧ Box2 W w.heap.size v1 v2 ∧ w.heap.size < b ∧ b < W.heap.size ∧ Bld b b acc W
theorem PS.keep {w W W' : World} {b : Nat} {v1 v2 : Value} {acc : List UInt8} (h : PS w W b v1 v2 acc) (hb : Below W.heap.size W W') : PS w W' b v1 v2 acc :=
  ⟨chnN hb h.1, h.2.1.below hb h.2.1.1, h.2.2.1, Nat.lt_of_lt_of_le h.2.2.2.1 hb.size, h.2.2.2.2.keep hb⟩
theorem PS.alloc {w W : World} {b : Nat} {v1 v2 : Value} {acc : List UInt8} (h : PS w W b v1 v2 acc) (o : Obj) : PS w (W.alloc o) b v1 v2 acc := h.keep ((Below.refl _ _).alloc (Nat.le_refl _) o)
theorem PS.drew {w W : World} {b : Nat} {v1 v2 : Value} {acc : List UInt8} (h : PS w W b v1 v2 acc) : PS w W.drew b v1 v2 acc := h.keep (Below.refl _ _).drew
theorem PS.line {w W W' : World} {b : Nat} {v1 v2 : Value} {acc acc' : List UInt8} (h : PS w W b v1 v2 acc) (hB : Bld b b acc' W') (hb : Below b W W') : PS w W' b v1 v2 acc' :=
  ⟨h.1.trans (hb.mono (Nat.le_of_lt h.2.2.1)), h.2.1.below hb h.2.2.1, h.2.2.1, Nat.lt_of_lt_of_le h.2.2.2.1 hb.size, hB⟩
/-- A block of a call's own, whole. -/
def Blk (W : World) (k : Nat) (c : Array Value) (t : TypeId) : Prop := W.heap[k]? = some (.cells c t (0, 0))
theorem blk_new (w : World) (c : Array Value) (t : TypeId) : Blk (w.alloc (.cells c t)) w.heap.size c t := Go.heap_alloc_new w _
theorem Blk.lt {W : World} {k : Nat} {c : Array Value} {t : TypeId} (h : Blk W k c t) : k < W.heap.size := (Array.getElem?_eq_some_iff.1 h).1
theorem Blk.keep {W W' : World} {k : Nat} {c : Array Value} {t : TypeId} (h : Blk W k c t) (hb : Below W.heap.size W W') : Blk W' k c t := (hb.block k h.lt).trans h
theorem Blk.alloc {W : World} {k : Nat} {c : Array Value} {t : TypeId} (h : Blk W k c t) (o : Obj) : Blk (W.alloc o) k c t := h.keep ((Below.refl _ _).alloc (Nat.le_refl _) o)
theorem Blk.drew {W : World} {k : Nat} {c : Array Value} {t : TypeId} (h : Blk W k c t) : Blk W.drew k c t := h
theorem Blk.line {W W' : World} {k b : Nat} {c : Array Value} {t : TypeId} (h : Blk W k c t) (hk : Lib.OthersKept 5 (some b) W W') (hkb : k ≠ b) (ht : t ≠ 5) : Blk W' k c t := kept_block hk h hkb ht
theorem Blk.cell {W : World} {k : Nat} {c : Array Value} {t : TypeId} (h : Blk W k c t) (j : Nat) (v : Value) (hj : c[j]? = some v) : W.cell? ⟨k, j, none⟩ = some v := by
  unfold Blk at h
  simp [World.cell?, h, hj]
theorem words_new (w : World) (xs : List ByteArray) : WordsAt (w.alloc (.cells (xs.map Value.string).toArray 9)) (.slice (some ⟨w.heap.size, 0, none⟩) xs.length xs.length) (xs.map (·.data.toList)) := by
  refine ⟨w.heap.size, 0, xs.length, by rw [List.length_map], by simp, by simp, fun j x hj => ?_⟩
  rw [List.getElem?_map] at hj
  cases hx : xs[j]? with
  | none => rw [hx] at hj; cases hj
  | some y =>
    rw [hx] at hj
    obtain rfl := Option.some.inj hj
    rw [nm_eta]
    have hb := blk_new w (xs.map Value.string).toArray 9
    rw [Nat.zero_add]
    exact hb.cell j _ (by simp [hx])
/-- A sum of two texts, under a name. -/
theorem sum_ex (a b : ByteArray) (h : a.size + b.size ≤ 1000000) : ∃ s : ByteArray, (∀ w : World, (Op.stringOp .add a b).run Tryz.prog w = .ok (.string s) w) ∧ Hid (s = a ++ b) :=
  ⟨a ++ b, fun w => run_string_add_sum w _ _ (by omega), rfl⟩
theorem itoa_ex (x : Int) (h0 : 0 ≤ x) (h1 : x < 100) : ∃ s : ByteArray, Hid (s.data.toList = dcB x) ∧ s.size ≤ 2 ∧ Hid (∀ w, Calls Tryz.prog 26 #[.int .i64 x] w fun e w' => e = .returned (.string s) ∧ w' = w) := by
  refine ⟨⟨(dcB x).toArray⟩, by show _ = _; simp, ?_, fun w => itoaB x h0 h1 w⟩
  have := dcB_len h1
  show (dcB x).toArray.size ≤ 2
  simpa using this
theorem app_toList (a b : ByteArray) : (a ++ b).data.toList = a.data.toList ++ b.data.toList := by simp [ByteArray.data_append]
end Go.Proofs.YthofdiacncgbkaaGreatDoor
