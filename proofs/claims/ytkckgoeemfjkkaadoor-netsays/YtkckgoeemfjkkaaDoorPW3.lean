/-
  Package net: the words of a device's line.
-/
import Derived.Test.YtkckgoeemfjkkaaDoorPW2
namespace Go.Proofs.YtkckgoeemfjkkaaDoor
open Go.RowKit

/-- Words that lie somewhere. -/
def WordsAt (w : World) (v : Value) (ws : List (List UInt8)) : Prop :=
  ∃ bk o c, v = .slice (some ⟨bk, o, none⟩) ws.length c ∧ ws.length ≤ c ∧ bk < w.heap.size ∧ ∀ (j : Nat) x, ws[j]? = some x → w.cell? ⟨bk, o + j, none⟩ = some (.string ⟨x.toArray⟩)
theorem WordsAt.own {base : Nat} {w : World} {v : Value} {ws : List (List UInt8)} (h : w.ownsRow base 9 1 v ws.length (strsB ws)) (hn : ws ≠ []) : WordsAt w v ws := by
  have hh := h
  obtain ⟨hl, hc⟩ := h
  rcases hc with ⟨rfl, h0⟩ | ⟨g, cap, cur, rfl, hb, hg, hn, hcap, hs, ht⟩
  · exact absurd (List.length_eq_zero_iff.1 h0) hn
  · refine ⟨g, 0, cap, rfl, hn, (Array.getElem?_eq_some_iff.1 hg).1, fun j x hj => ?_⟩
    have := hh.cells (g := g) rfl j (.string ⟨x.toArray⟩) (by unfold strsB; rw [List.getElem?_map, hj]; rfl)
    rw [Addr.add_lit] at this
    exact this
theorem Seven.drewW {w : World} {n : Nat} {a b c d e f g : Value} (h : Seven w n a b c d e f g) : Seven w.drew n a b c d e f g := h
theorem nm_eta (s : ByteArray) : (⟨s.data.toList.toArray⟩ : ByteArray) = s := by cases s; simp
theorem two_wordsN (w : World) (base : Nat) (a : List UInt8) (s : ByteArray) (h : base ≤ w.heap.size) : (w.alloc (.cells #[.string ⟨a.toArray⟩, .string s] 9)).ownsRow base 9 1 (.slice (some ⟨w.heap.size, 0, none⟩) 2 2) [a, s.data.toList].length (strsB [a, s.data.toList]) := by
  have := two_words w base a s.data.toList h
  rw [nm_eta] at this
  exact this
set_option maxHeartbeats 4000000 in
set_option maxRecDepth 100000 in
theorem dw_1 (nm : ByteArray) (ad : Int) (pl : Nat) (A : Option Addr) (cap : Nat) (bs : List Int) (vr vt : Value) (w : World) (hDL : DLn 0 w) (_hB : Hid (SlAt w.heap.size w 1 IsI (.slice A bs.length cap) bs)) (ha : 0 ≤ ad ∧ ad ≤ 15) (_hp : pl < 256) (_hb3 : bs.length ≤ 3) (_hbk : Hid (∀ b ∈ bs, 0 ≤ b ∧ b ≤ 15)) :
    Calls Tryd.prog 20 #[devA nm 1 ad pl (.slice A bs.length cap) vr vt] w fun e w' => ∃ v, e = .returned v ∧ WordsAt w' v [kwB 1, nm.data.toList, dcB ad] ∧ Below w.heap.size w w' := by
  have D0 := Below.alN (Below.refl w.heap.size w) (.cells #[.string nm, .int .i64 1, .int .i64 ad, .int .u8 (pl : Int), .slice A bs.length cap, vr, vt] 41)
  have V0 := seven_new w (.string nm) (.int .i64 1) (.int .i64 ad) (.int .u8 (pl : Int)) (.slice A bs.length cap) vr vt 41
  have KW : Hid (∀ W, Below w.heap.size w W → Calls Tryd.prog 35 #[.int .i64 1] W fun e w' => e = .returned (.string ⟨(kwB 1).toArray⟩) ∧ Below W.heap.size W w') := fun W h => kindWord_any 1 W (by omega) (hDL.below h hDL.lt)
  have HA : Hid (∀ w, Calls Tryd.prog 36 #[.int .i64 1] w fun e w' => e = .returned (.bool (hasAddr 1)) ∧ w' = w) := fun w => hasAddr_any 1 w
  rw [show hasAddr 1 = true from rfl] at HA
  generalize kwB 1 = kw at *
  have IT : Hid (∀ w, Calls Tryd.prog 15 #[.int .i64 ad] w fun e w' => e = .returned (.string ⟨(dcB ad).toArray⟩) ∧ w' = w) := fun w => itoaB ad ha.1 (by omega) w
  generalize dcB ad = da at *
  obtain ⟨_, q0, q1, _⟩ := id V0
  go_enter Tryd.func20, Tryd.ntmps20
  go_wp2_with fail
  go_region_held3 (fun w' => w'.cell? ⟨w.heap.size, 0, none⟩ = some (.string nm) ∧ w'.cell? ⟨w.heap.size, 1, none⟩ = some (.int .i64 1)) (go_keep) ((go_at_call 35; refine (KW.out _ D0.drew).mono ?_; rintro e w1 ⟨rfl, hb1⟩; have D1 := chnN hb1 D0.drew; have V1 := V0.drewW.below hb1 V0.1; obtain ⟨_, p0, p1, _⟩ := id V1))
  clear q0 q1 KW hb1 p0 p1
  have D2 := Below.alN D1 (.cells #[.string ⟨kw.toArray⟩, .string nm] 9)
  have V2 := V1.below ((Below.refl _ _).alloc (Nat.le_refl _) (.cells #[.string ⟨kw.toArray⟩, .string nm] 9)) V1.1
  have O2 := two_wordsN w1 (w.heap.size + 1) kw nm V1.1
  have s2 : w.heap.size + 1 ≤ (w1.alloc (.cells #[.string ⟨kw.toArray⟩, .string nm] 9)).heap.size := V2.1
  obtain ⟨_, q0, q1, q2, q3, q4, q5, q6⟩ := id V2
  clear D1 V1 V0 D0
  obtain ⟨v3, w3, r3, O3, hb3'⟩ := app_word da O2 rfl (by simp) s2
  rw [World.size_alloc] at r3
  have D3 := D2.trans (hb3'.mono (by omega))
  have V3 := V2.below hb3' (by omega)
  have s3 : w.heap.size + 1 ≤ w3.heap.size := V3.1
  obtain ⟨_, y0, y1, y2, y3, y4, y5, y6⟩ := id V3
  go_wp2_with (first | (at_builtin; refine append_run2 rfl _ _ 50 rfl rfl rfl r3 ?_) | (go_at_call 36; refine (HA.out _).mono ?_; rintro e w' ⟨rfl, rfl⟩) | (go_at_call 15; refine (IT.out _).mono ?_; rintro e w' ⟨rfl, rfl⟩))
  go_ret
  exact ⟨_, rfl, WordsAt.own O3 (by simp), D3⟩
set_option maxHeartbeats 4000000 in
set_option maxRecDepth 100000 in
theorem dw_2 (nm : ByteArray) (ad : Int) (pl : Nat) (A : Option Addr) (cap : Nat) (bs : List Int) (vr vt : Value) (w : World) (hDL : DLn 0 w) (_hB : Hid (SlAt w.heap.size w 1 IsI (.slice A bs.length cap) bs)) (_hp : pl < 256) (_hb3 : bs.length ≤ 3) (_hbk : Hid (∀ b ∈ bs, 0 ≤ b ∧ b ≤ 15)) :
    Calls Tryd.prog 20 #[devA nm 2 ad pl (.slice A bs.length cap) vr vt] w fun e w' => ∃ v, e = .returned v ∧ WordsAt w' v [kwB 2, nm.data.toList] ∧ Below w.heap.size w w' := by
  have D0 := Below.alN (Below.refl w.heap.size w) (.cells #[.string nm, .int .i64 2, .int .i64 ad, .int .u8 (pl : Int), .slice A bs.length cap, vr, vt] 41)
  have V0 := seven_new w (.string nm) (.int .i64 2) (.int .i64 ad) (.int .u8 (pl : Int)) (.slice A bs.length cap) vr vt 41
  have KW : Hid (∀ W, Below w.heap.size w W → Calls Tryd.prog 35 #[.int .i64 2] W fun e w' => e = .returned (.string ⟨(kwB 2).toArray⟩) ∧ Below W.heap.size W w') := fun W h => kindWord_any 2 W (by omega) (hDL.below h hDL.lt)
  have HA : Hid (∀ w, Calls Tryd.prog 36 #[.int .i64 2] w fun e w' => e = .returned (.bool (hasAddr 2)) ∧ w' = w) := fun w => hasAddr_any 2 w
  rw [show hasAddr 2 = false from rfl] at HA
  generalize kwB 2 = kw at *
  obtain ⟨_, q0, q1, _⟩ := id V0
  go_enter Tryd.func20, Tryd.ntmps20
  go_wp2_with fail
  go_region_held3 (fun w' => w'.cell? ⟨w.heap.size, 0, none⟩ = some (.string nm) ∧ w'.cell? ⟨w.heap.size, 1, none⟩ = some (.int .i64 2)) (go_keep) ((go_at_call 35; refine (KW.out _ D0.drew).mono ?_; rintro e w1 ⟨rfl, hb1⟩; have D1 := chnN hb1 D0.drew; have V1 := V0.drewW.below hb1 V0.1; obtain ⟨_, p0, p1, _⟩ := id V1))
  clear q0 q1 KW hb1 p0 p1
  have D2 := Below.alN D1 (.cells #[.string ⟨kw.toArray⟩, .string nm] 9)
  have V2 := V1.below ((Below.refl _ _).alloc (Nat.le_refl _) (.cells #[.string ⟨kw.toArray⟩, .string nm] 9)) V1.1
  have O2 := two_wordsN w1 (w.heap.size + 1) kw nm V1.1
  have s2 : w.heap.size + 1 ≤ (w1.alloc (.cells #[.string ⟨kw.toArray⟩, .string nm] 9)).heap.size := V2.1
  obtain ⟨_, q0, q1, q2, q3, q4, q5, q6⟩ := id V2
  clear D1 V1 V0 D0
  go_wp2_with (go_at_call 36; refine (HA.out _).mono ?_; rintro e w' ⟨rfl, rfl⟩)
  go_ret
  exact ⟨_, rfl, WordsAt.own O2 (by simp), D2⟩
set_option maxHeartbeats 4000000 in
set_option maxRecDepth 100000 in
theorem dw_3 (nm : ByteArray) (ad : Int) (pl : Nat) (A : Option Addr) (cap : Nat) (bs : List Int) (vr vt : Value) (w : World) (hDL : DLn 0 w) (_hB : Hid (SlAt w.heap.size w 1 IsI (.slice A bs.length cap) bs)) (_hp : pl < 256) (_hb3 : bs.length ≤ 3) (_hbk : Hid (∀ b ∈ bs, 0 ≤ b ∧ b ≤ 15)) :
    Calls Tryd.prog 20 #[devA nm 3 ad pl (.slice A bs.length cap) vr vt] w fun e w' => ∃ v, e = .returned v ∧ WordsAt w' v [kwB 3, nm.data.toList] ∧ Below w.heap.size w w' := by
  have D0 := Below.alN (Below.refl w.heap.size w) (.cells #[.string nm, .int .i64 3, .int .i64 ad, .int .u8 (pl : Int), .slice A bs.length cap, vr, vt] 41)
  have V0 := seven_new w (.string nm) (.int .i64 3) (.int .i64 ad) (.int .u8 (pl : Int)) (.slice A bs.length cap) vr vt 41
  have KW : Hid (∀ W, Below w.heap.size w W → Calls Tryd.prog 35 #[.int .i64 3] W fun e w' => e = .returned (.string ⟨(kwB 3).toArray⟩) ∧ Below W.heap.size W w') := fun W h => kindWord_any 3 W (by omega) (hDL.below h hDL.lt)
  have HA : Hid (∀ w, Calls Tryd.prog 36 #[.int .i64 3] w fun e w' => e = .returned (.bool (hasAddr 3)) ∧ w' = w) := fun w => hasAddr_any 3 w
  rw [show hasAddr 3 = false from rfl] at HA
  generalize kwB 3 = kw at *
  obtain ⟨_, q0, q1, _⟩ := id V0
  go_enter Tryd.func20, Tryd.ntmps20
  go_wp2_with fail
  go_region_held3 (fun w' => w'.cell? ⟨w.heap.size, 0, none⟩ = some (.string nm) ∧ w'.cell? ⟨w.heap.size, 1, none⟩ = some (.int .i64 3)) (go_keep) ((go_at_call 35; refine (KW.out _ D0.drew).mono ?_; rintro e w1 ⟨rfl, hb1⟩; have D1 := chnN hb1 D0.drew; have V1 := V0.drewW.below hb1 V0.1; obtain ⟨_, p0, p1, _⟩ := id V1))
  clear q0 q1 KW hb1 p0 p1
  have D2 := Below.alN D1 (.cells #[.string ⟨kw.toArray⟩, .string nm] 9)
  have V2 := V1.below ((Below.refl _ _).alloc (Nat.le_refl _) (.cells #[.string ⟨kw.toArray⟩, .string nm] 9)) V1.1
  have O2 := two_wordsN w1 (w.heap.size + 1) kw nm V1.1
  have s2 : w.heap.size + 1 ≤ (w1.alloc (.cells #[.string ⟨kw.toArray⟩, .string nm] 9)).heap.size := V2.1
  obtain ⟨_, q0, q1, q2, q3, q4, q5, q6⟩ := id V2
  clear D1 V1 V0 D0
  go_wp2_with (go_at_call 36; refine (HA.out _).mono ?_; rintro e w' ⟨rfl, rfl⟩)
  go_ret
  exact ⟨_, rfl, WordsAt.own O2 (by simp), D2⟩
set_option maxHeartbeats 4000000 in
set_option maxRecDepth 100000 in
theorem dw_4 (nm : ByteArray) (ad : Int) (pl : Nat) (A : Option Addr) (cap : Nat) (bs : List Int) (vr vt : Value) (w : World) (hDL : DLn 0 w) (_hB : Hid (SlAt w.heap.size w 1 IsI (.slice A bs.length cap) bs)) (ha : 0 ≤ ad ∧ ad ≤ 15) (hp : pl < 256) (_hb3 : bs.length ≤ 3) (_hbk : Hid (∀ b ∈ bs, 0 ≤ b ∧ b ≤ 15)) :
    Calls Tryd.prog 20 #[devA nm 4 ad pl (.slice A bs.length cap) vr vt] w fun e w' => ∃ v, e = .returned v ∧ WordsAt w' v [kwB 4, nm.data.toList, dcB ad, numsT (poolL pl)] ∧ Below w.heap.size w w' := by
  have D0 := Below.alN (Below.refl w.heap.size w) (.cells #[.string nm, .int .i64 4, .int .i64 ad, .int .u8 (pl : Int), .slice A bs.length cap, vr, vt] 41)
  have V0 := seven_new w (.string nm) (.int .i64 4) (.int .i64 ad) (.int .u8 (pl : Int)) (.slice A bs.length cap) vr vt 41
  have KW : Hid (∀ W, Below w.heap.size w W → Calls Tryd.prog 35 #[.int .i64 4] W fun e w' => e = .returned (.string ⟨(kwB 4).toArray⟩) ∧ Below W.heap.size W w') := fun W h => kindWord_any 4 W (by omega) (hDL.below h hDL.lt)
  have HA : Hid (∀ w, Calls Tryd.prog 36 #[.int .i64 4] w fun e w' => e = .returned (.bool (hasAddr 4)) ∧ w' = w) := fun w => hasAddr_any 4 w
  rw [show hasAddr 4 = true from rfl] at HA
  generalize kwB 4 = kw at *
  have IT : Hid (∀ w, Calls Tryd.prog 15 #[.int .i64 ad] w fun e w' => e = .returned (.string ⟨(dcB ad).toArray⟩) ∧ w' = w) := fun w => itoaB ad ha.1 (by omega) w
  have PI : Hid (∀ w, Calls Tryd.prog 38 #[.int .u8 (pl : Int)] w fun e w' => ∃ v, e = .returned v ∧ w'.ownsRow w.heap.size 3 1 v (poolL pl).length (intsC (poolL pl)) ∧ Below w.heap.size w w') := fun w => portsIn_any pl w hp
  have PN : Hid (∀ (v : Value) (base : Nat) (W : World), W.ownsRow base 3 1 v (poolL pl).length (intsC (poolL pl)) → Calls Tryd.prog 37 #[v] W fun e w' => e = .returned (.string ⟨(numsT (poolL pl)).toArray⟩) ∧ Below W.heap.size W w') := fun v base W h => printNums_any v _ W (ints_own h) (poolL_len pl) (fun x hx => by have := poolL_mem hx; omega)
  generalize numsT (poolL pl) = tx at *
  generalize dcB ad = da at *
  obtain ⟨_, q0, q1, _⟩ := id V0
  go_enter Tryd.func20, Tryd.ntmps20
  go_wp2_with fail
  go_region_held3 (fun w' => w'.cell? ⟨w.heap.size, 0, none⟩ = some (.string nm) ∧ w'.cell? ⟨w.heap.size, 1, none⟩ = some (.int .i64 4)) (go_keep) ((go_at_call 35; refine (KW.out _ D0.drew).mono ?_; rintro e w1 ⟨rfl, hb1⟩; have D1 := chnN hb1 D0.drew; have V1 := V0.drewW.below hb1 V0.1; obtain ⟨_, p0, p1, _⟩ := id V1))
  clear q0 q1 KW hb1 p0 p1
  have D2 := Below.alN D1 (.cells #[.string ⟨kw.toArray⟩, .string nm] 9)
  have V2 := V1.below ((Below.refl _ _).alloc (Nat.le_refl _) (.cells #[.string ⟨kw.toArray⟩, .string nm] 9)) V1.1
  have O2 := two_wordsN w1 (w.heap.size + 1) kw nm V1.1
  have s2 : w.heap.size + 1 ≤ (w1.alloc (.cells #[.string ⟨kw.toArray⟩, .string nm] 9)).heap.size := V2.1
  obtain ⟨_, q0, q1, q2, q3, q4, q5, q6⟩ := id V2
  clear D1 V1 V0 D0
  obtain ⟨v3, w3, r3, O3, hb3'⟩ := app_word da O2 rfl (by simp) s2
  rw [World.size_alloc] at r3
  have D3 := D2.trans (hb3'.mono (by omega))
  have V3 := V2.below hb3' (by omega)
  have s3 : w.heap.size + 1 ≤ w3.heap.size := V3.1
  obtain ⟨_, y0, y1, y2, y3, y4, y5, y6⟩ := id V3
  go_wp2_with (first | (at_builtin; refine append_run2 rfl _ _ 50 rfl rfl rfl r3 ?_) | (go_at_call 36; refine (HA.out _).mono ?_; rintro e w' ⟨rfl, rfl⟩) | (go_at_call 15; refine (IT.out _).mono ?_; rintro e w' ⟨rfl, rfl⟩))
  refine (PI.out _).mono ?_
  rintro e w4 ⟨v4, rfl, o4, hb4⟩
  have D4 := chnN hb4 D3
  have V4 := V3.below hb4 V3.1
  have O4 := ownsRow_belN O3 hb4
  clear q0 q1 q2 q3 q4 q5 q6 y0 y1 y2 y3 y4 y5 y6
  go_wp2_with fail
  refine (PN.out _ _ _ o4).mono ?_
  rintro e w5 ⟨rfl, hb5⟩
  have D5 := chnN hb5 D4
  have V5 := V4.below hb5 V4.1
  have O5 := ownsRow_belN O4 hb5
  obtain ⟨v6, w6, r6, O6, hb6⟩ := app_word tx O5 rfl (by simp) V5.1
  have D6 := D5.trans (hb6.mono (by omega))
  obtain ⟨_, z0, z1, z2, z3, z4, z5, z6⟩ := id (V5.below hb6 (by omega))
  go_wp2_with (at_builtin; refine append_run2 rfl _ _ 50 rfl rfl rfl r6 ?_)
  go_ret
  exact ⟨_, rfl, WordsAt.own O6 (by simp), D6⟩
set_option maxHeartbeats 4000000 in
set_option maxRecDepth 100000 in
theorem dw_5 (nm : ByteArray) (ad : Int) (pl : Nat) (A : Option Addr) (cap : Nat) (bs : List Int) (vr vt : Value) (w : World) (hDL : DLn 0 w) (hB : Hid (SlAt w.heap.size w 1 IsI (.slice A bs.length cap) bs)) (ha : 0 ≤ ad ∧ ad ≤ 15) (_hp : pl < 256) (hb3 : bs.length ≤ 3) (hbk : Hid (∀ b ∈ bs, 0 ≤ b ∧ b ≤ 15)) :
    Calls Tryd.prog 20 #[devA nm 5 ad pl (.slice A bs.length cap) vr vt] w fun e w' => ∃ v, e = .returned v ∧ WordsAt w' v [kwB 5, nm.data.toList, dcB ad, numsT bs] ∧ Below w.heap.size w w' := by
  have D0 := Below.alN (Below.refl w.heap.size w) (.cells #[.string nm, .int .i64 5, .int .i64 ad, .int .u8 (pl : Int), .slice A bs.length cap, vr, vt] 41)
  have V0 := seven_new w (.string nm) (.int .i64 5) (.int .i64 ad) (.int .u8 (pl : Int)) (.slice A bs.length cap) vr vt 41
  have KW : Hid (∀ W, Below w.heap.size w W → Calls Tryd.prog 35 #[.int .i64 5] W fun e w' => e = .returned (.string ⟨(kwB 5).toArray⟩) ∧ Below W.heap.size W w') := fun W h => kindWord_any 5 W (by omega) (hDL.below h hDL.lt)
  have HA : Hid (∀ w, Calls Tryd.prog 36 #[.int .i64 5] w fun e w' => e = .returned (.bool (hasAddr 5)) ∧ w' = w) := fun w => hasAddr_any 5 w
  rw [show hasAddr 5 = true from rfl] at HA
  generalize kwB 5 = kw at *
  have IT : Hid (∀ w, Calls Tryd.prog 15 #[.int .i64 ad] w fun e w' => e = .returned (.string ⟨(dcB ad).toArray⟩) ∧ w' = w) := fun w => itoaB ad ha.1 (by omega) w
  have PN : Hid (∀ (W : World), Below w.heap.size w W → Calls Tryd.prog 37 #[.slice A bs.length cap] W fun e w' => e = .returned (.string ⟨(numsT bs).toArray⟩) ∧ Below W.heap.size W w') := fun W h => printNums_any _ bs W (SlAt.mono (SlAt.below hB.out h (fun _ _ _ h => h)) h.size (fun _ _ _ h => h)) (by omega) (fun x hx => by have := hbk.out x hx; omega)
  generalize numsT bs = tx at *
  generalize dcB ad = da at *
  obtain ⟨_, q0, q1, _⟩ := id V0
  go_enter Tryd.func20, Tryd.ntmps20
  go_wp2_with fail
  go_region_held3 (fun w' => w'.cell? ⟨w.heap.size, 0, none⟩ = some (.string nm) ∧ w'.cell? ⟨w.heap.size, 1, none⟩ = some (.int .i64 5)) (go_keep) ((go_at_call 35; refine (KW.out _ D0.drew).mono ?_; rintro e w1 ⟨rfl, hb1⟩; have D1 := chnN hb1 D0.drew; have V1 := V0.drewW.below hb1 V0.1; obtain ⟨_, p0, p1, _⟩ := id V1))
  clear q0 q1 KW hb1 p0 p1
  have D2 := Below.alN D1 (.cells #[.string ⟨kw.toArray⟩, .string nm] 9)
  have V2 := V1.below ((Below.refl _ _).alloc (Nat.le_refl _) (.cells #[.string ⟨kw.toArray⟩, .string nm] 9)) V1.1
  have O2 := two_wordsN w1 (w.heap.size + 1) kw nm V1.1
  have s2 : w.heap.size + 1 ≤ (w1.alloc (.cells #[.string ⟨kw.toArray⟩, .string nm] 9)).heap.size := V2.1
  obtain ⟨_, q0, q1, q2, q3, q4, q5, q6⟩ := id V2
  clear D1 V1 V0 D0
  obtain ⟨v3, w3, r3, O3, hb3'⟩ := app_word da O2 rfl (by simp) s2
  rw [World.size_alloc] at r3
  have D3 := D2.trans (hb3'.mono (by omega))
  have V3 := V2.below hb3' (by omega)
  have s3 : w.heap.size + 1 ≤ w3.heap.size := V3.1
  obtain ⟨_, y0, y1, y2, y3, y4, y5, y6⟩ := id V3
  go_wp2_with (first | (at_builtin; refine append_run2 rfl _ _ 50 rfl rfl rfl r3 ?_) | (go_at_call 36; refine (HA.out _).mono ?_; rintro e w' ⟨rfl, rfl⟩) | (go_at_call 15; refine (IT.out _).mono ?_; rintro e w' ⟨rfl, rfl⟩))
  have D4 := D3
  have V4 := V3
  have O4 := O3
  refine (PN.out _ D3).mono ?_
  rintro e w5 ⟨rfl, hb5⟩
  have D5 := chnN hb5 D4
  have V5 := V4.below hb5 V4.1
  have O5 := ownsRow_belN O4 hb5
  obtain ⟨v6, w6, r6, O6, hb6⟩ := app_word tx O5 rfl (by simp) V5.1
  have D6 := D5.trans (hb6.mono (by omega))
  obtain ⟨_, z0, z1, z2, z3, z4, z5, z6⟩ := id (V5.below hb6 (by omega))
  go_wp2_with (at_builtin; refine append_run2 rfl _ _ 50 rfl rfl rfl r6 ?_)
  go_ret
  exact ⟨_, rfl, WordsAt.own O6 (by simp), D6⟩
theorem WordsAt.eq {w : World} {v : Value} {a b : List (List UInt8)} (h : WordsAt w v a) (e : a = b) : WordsAt w v b := by rw [← e]; exact h
/-- deviceWords. -/
theorem deviceWords_any (d : Dv) (R : RightD d) (vb vr vt : Value) (w : World) (hDL : DLn 0 w) (hb : SlAt w.heap.size w 1 IsI vb d.backs) :
    Calls Tryd.prog 20 #[devA d.name d.kind d.addr d.pool vb vr vt] w fun e w' => ∃ v, e = .returned v ∧ WordsAt w' v (devWs d) ∧ Below w.heap.size w w' := by
  obtain ⟨Ab, cb, e, _, _, _, _⟩ := id hb
  subst e
  have hk := R.kind
  have ha : 0 ≤ (if hasAddr d.kind then d.addr else 0) ∧ (if hasAddr d.kind then d.addr else 0) ≤ 15 := by
    split
    · rename_i h; exact R.addr h
    · omega
  have h3 := R.backs
  have hbk := R.back
  have hkk : d.kind = 1 ∨ d.kind = 2 ∨ d.kind = 3 ∨ d.kind = 4 ∨ d.kind = 5 := by omega
  obtain ⟨nm, k, ad, pl, bs, rs, ts, hp, hs⟩ := d
  simp only at hb ha h3 hbk hkk ⊢
  unfold devWs addrW tailW
  simp only
  rcases hkk with rfl | rfl | rfl | rfl | rfl
  · exact (dw_1 nm ad pl Ab cb bs vr vt w hDL hb ha hp h3 hbk).mono fun e w' ⟨v, h1, h2, h3⟩ => ⟨v, h1, h2.eq rfl, h3⟩
  · exact (dw_2 nm ad pl Ab cb bs vr vt w hDL hb hp h3 hbk).mono fun e w' ⟨v, h1, h2, h3⟩ => ⟨v, h1, h2.eq rfl, h3⟩
  · exact (dw_3 nm ad pl Ab cb bs vr vt w hDL hb hp h3 hbk).mono fun e w' ⟨v, h1, h2, h3⟩ => ⟨v, h1, h2.eq rfl, h3⟩
  · exact (dw_4 nm ad pl Ab cb bs vr vt w hDL hb ha hp h3 hbk).mono fun e w' ⟨v, h1, h2, h3⟩ => ⟨v, h1, h2.eq rfl, h3⟩
  · exact (dw_5 nm ad pl Ab cb bs vr vt w hDL hb ha hp h3 hbk).mono fun e w' ⟨v, h1, h2, h3⟩ => ⟨v, h1, h2.eq rfl, h3⟩
end Go.Proofs.YtkckgoeemfjkkaaDoor
