/-
  StepFire: it returns true.
-/
import Derived.Test.YtecdepgcklgfbaaSe1
namespace Go.Proofs.Ytecdepgcklgfbaa
open Go.RowKit Go.Maps

set_option maxHeartbeats 8000000 in
set_option maxRecDepth 100000 in
/-- The first example: out it goes. -/
theorem fire_try (A : Option Addr) (cap : Nat) (rs : List NRule) (s dd sp dp s2 dd2 sp2 dp2 : Int) (w : World) (hR : Hid (SlAt w.heap.size w 5 IsRule (.slice A rs.length cap) rs)) :
    Calls Try.prog 3 #[.slice A rs.length cap, .agg #[.int .i64 s, .int .i64 dd, .int .i64 sp, .int .i64 dp], .agg #[.int .i64 s2, .int .i64 dd2, .int .i64 sp2, .int .i64 dp2]] w fun e w' => e = .returned (.bool true) ∧ Below w.heap.size w w' := by
  have nilS : ∀ {α : Type} (W : World) (n : Nat) (R : List Value → α → Prop), SlAt W.heap.size W n R (.slice none 0 0) [] := fun W n R => ⟨none, 0, rfl, fun _ => rfl, Nat.le_refl _, Nat.zero_le _, fun h => absurd rfl h⟩
  have CH : Hid (∀ (rs : List NRule) (vr : Value) (W : World), SlAt W.heap.size W 5 IsRule vr rs → Calls Try.prog 8 #[.agg #[.string ⟨#[]⟩, .int .i64 3, .int .i64 0, .int .u8 0, .slice none 0 0, vr, .slice none 0 0]] W fun e w' => ∃ b b', e = .returned (.agg #[.slice (some ⟨b, 0, none⟩) 3 3, .slice (some ⟨b', 0, none⟩) 2 2]) ∧ Devs w'.heap.size w' (.slice (some ⟨b, 0, none⟩) 3 3) (chainD (fireD rs)) ∧ Links w'.heap.size w' (.slice (some ⟨b', 0, none⟩) 2 2) chainL ∧ Below W.heap.size W w') := fun rs vr W h => chain_any (fireD rs) (.slice none 0 0) vr (.slice none 0 0) W (nilS _ _ _) h (nilS _ _ _)
  have NW : Hid (∀ (rs : List NRule) (b b' : Nat) (W : World), Devs W.heap.size W (.slice (some ⟨b, 0, none⟩) 3 3) (chainD (fireD rs)) → Links W.heap.size W (.slice (some ⟨b', 0, none⟩) 2 2) chainL → Calls Try.prog 7 #[.agg #[.slice (some ⟨b, 0, none⟩) 3 3, .slice (some ⟨b', 0, none⟩) 2 2]] W (NewOut W (chainD (fireD rs)) chainL)) := fun rs b b' W h1 h2 => new_any (some ⟨b, 0, none⟩) (some ⟨b', 0, none⟩) 3 2 (chainD (fireD rs)) chainL W h1 h2
  have PLC : Hid (∀ (x y : Int) W, Calls Try.prog 11 #[.int .i64 x, .int .i64 y] W fun e w' => e = .returned (plA x y) ∧ Below W.heap.size W w') := fun x y W => place_any x y W
  have X0 : X2 w.heap.size ⟨s, dd, sp, dp⟩ ⟨s2, dd2, sp2, dp2⟩ ((w.alloc (pkC ⟨s, dd, sp, dp⟩)).alloc (pkC ⟨s2, dd2, sp2, dp2⟩)) := ⟨(bk_new w _ _).alloc _, bk_new' _ _ _ _ (by simp)⟩
  have D0 := Below.alN (Below.alN (Below.refl w.heap.size w) (pkC ⟨s, dd, sp, dp⟩)) (pkC ⟨s2, dd2, sp2, dp2⟩)
  go_enter Try.func3, Try.ntmps3
  go_wp2_with fail
  refine (allR_any true _).mono ?_
  rintro e w1 ⟨rfl, hb1⟩
  have D1 := Below.alN (chnN hb1 D0) (.cells #[.bool true, .int .u16 65535, .int .u16 65535, .int .u8 255, .int .u8 255] 38)
  have X1 : X2 w.heap.size ⟨s, dd, sp, dp⟩ ⟨s2, dd2, sp2, dp2⟩ (w1.alloc (.cells #[.bool true, .int .u16 65535, .int .u16 65535, .int .u8 255, .int .u8 255] 38)) := ⟨(X0.1.keep hb1).alloc _, (X0.2.keep hb1).alloc _⟩
  have R1 : SlAt (w1.alloc (.cells #[.bool true, .int .u16 65535, .int .u16 65535, .int .u8 255, .int .u8 255] 38)).heap.size (w1.alloc (.cells #[.bool true, .int .u16 65535, .int .u16 65535, .int .u8 255, .int .u8 255] 38)) 5 IsRule (.slice (some ⟨w1.heap.size, 0, none⟩) 1 1) [allN true] := by
    have hB := bk_new w1 #[.bool true, .int .u16 65535, .int .u16 65535, .int .u8 255, .int .u8 255] 38
    refine ⟨_, 1, rfl, (fun e => by cases e), Nat.le_refl _, by decide, fun _ => ⟨w1.heap.size, 0, rfl, hB.lt, fun k x hx => ?_⟩⟩
    match k, hx with
    | 0, hx =>
      obtain rfl := Option.some.inj hx
      refine ⟨[.bool true, .int .u16 65535, .int .u16 65535, .int .u8 255, .int .u8 255], rfl, rfl, fun j u hj => ?_⟩
      rw [show 0 + 0 * 5 + j = j by omega, hB.at]
      have hj5 : j < 5 := (List.getElem?_eq_some_iff.1 hj).1
      match j, hj5, hj with
      | 0, _, hj => exact hj
      | 1, _, hj => exact hj
      | 2, _, hj => exact hj
      | 3, _, hj => exact hj
      | 4, _, hj => exact hj
  clear hb1 D0 X0
  go_wp2_with fail
  refine (CH.out _ _ _ R1).mono ?_
  rintro e w2 ⟨b, b', rfl, hD2, hL2, hb2⟩
  have D2 := chnN hb2 D1
  have X2' : X2 w.heap.size ⟨s, dd, sp, dp⟩ ⟨s2, dd2, sp2, dp2⟩ w2 := ⟨X1.1.keep hb2, X1.2.keep hb2⟩
  clear hb2 D1 X1 R1
  go_wp2_with fail
  refine (NW.out _ _ _ _ hD2 hL2).mono ?_
  rintro e w3 ⟨hb3, hN⟩
  have D3 := chnN hb3 D2
  have X3 : X2 w.heap.size ⟨s, dd, sp, dp⟩ ⟨s2, dd2, sp2, dp2⟩ w3 := ⟨X2'.1.keep hb3, X2'.2.keep hb3⟩
  have z2 := D2.size
  clear hb3 D2 X2' hD2 hL2
  rcases hN with ⟨hne, _⟩ | ⟨_, m, rfl, hM, lo1, lo2, lo3, _⟩
  · exact absurd (by rw [fire_netV]; rfl) hne
  have zX := X3.2.lt
  have hX : Hid (∀ W W', KT w3.heap.size W W' → X2 w.heap.size ⟨s, dd, sp, dp⟩ ⟨s2, dd2, sp2, dp2⟩ W → X2 w.heap.size ⟨s, dd, sp, dp⟩ ⟨s2, dd2, sp2, dp2⟩ W') := x2_kt zX
  have S3 := LSt.new (w := w) hM X3 D3 ⟨by omega, by omega, by omega⟩
  have TL : w.heap.size ≤ w3.heap.size := S3.T_le
  have HD1 : Hid (∀ W, LSt w w3.heap.size (X2 w.heap.size ⟨s, dd, sp, dp⟩ ⟨s2, dd2, sp2, dp2⟩) m (chainD (fireD [allN true])) chainL 0 noM W → Calls Try.prog 10 #[.pointer (some ⟨m.B, 0, none⟩), plA 1 0, .agg #[.int .i64 1, .int .i64 2, .int .i64 0, .int .i64 0], .int .i64 0] W fun e w' => e = .returned (.tuple #[.agg #[.int .i64 2, .int .i64 0, .int .i64 1, .int .i64 2, .int .i64 0, .int .i64 0], .int .i64 0]) ∧ LSt w w3.heap.size (X2 w.heap.size ⟨s, dd, sp, dp⟩ ⟨s2, dd2, sp2, dp2⟩) m (chainD (fireD [allN true])) chainL 1 (learnP noM (.flow 1 ⟨1, 2, 0, 0⟩)) w' ∧ CK W w') := fun W h => handle_l hX 1 0 ⟨1, 2, 0, 0⟩ 0 h (by decide) (addrs_fire _) ok1 ok0 (by rw [fire_ask, if_pos (by decide), if_pos letsB_all])
  clear D3 X3 hM lo1 lo2 lo3
  go_wp2_with fail
  refine (PLC.out _ _ _).mono ?_
  rintro e w4 ⟨rfl, hb4⟩
  have S4 := S3.keep hX hb4
  clear hb4 S3
  go_wp2_with fail
  refine (HD1.out _ S4).mono ?_
  rintro e w5 ⟨rfl, S5, _⟩
  have S6 := S5.alloc hX (.cells #[.int .i64 2, .int .i64 0, .int .i64 1, .int .i64 2, .int .i64 0, .int .i64 0] 47)
  have Y6 := bk_new w5 #[.int .i64 2, .int .i64 0, .int .i64 1, .int .i64 2, .int .i64 0, .int .i64 0] 47
  have y0 := Y6.at 0
  have y1 := Y6.at 1
  have D6 := S6.below
  have X6 := S6.x
  clear S4 HD1 S5 S6 hX TL
  have NE : ∀ w, (binOp .neq 45 (plA 2 0) (plA 2 0)).run Try.prog w = .ok (.bool false) w := fun w => by rw [place_ne]; rfl
  have D6d := D6.drew
  have X6d : X2 w.heap.size ⟨s, dd, sp, dp⟩ ⟨s2, dd2, sp2, dp2⟩ (w5.alloc (.cells #[.int .i64 2, .int .i64 0, .int .i64 1, .int .i64 2, .int .i64 0, .int .i64 0] 47)).drew := X6
  have Y6d := Y6.drew
  go_wp2_with fail
  go_region_held3 (fun w' => w'.cell? ⟨w5.heap.size, 0, none⟩ = some (.int .i64 2) ∧ w'.cell? ⟨w5.heap.size, 1, none⟩ = some (.int .i64 0)) (go_keep) ((go_at_call 11; refine (PLC.out _ _ _).mono ?_; rintro e w7 ⟨rfl, hb7⟩; have D7 := chnN hb7 D6d; have X7 : X2 w.heap.size ⟨s, dd, sp, dp⟩ ⟨s2, dd2, sp2, dp2⟩ w7 := ⟨X6d.1.keep hb7, X6d.2.keep hb7⟩; have Y7 := Y6d.keep hb7; have yy0 := Y7.at 0; have yy1 := Y7.at 1))
  clear D6 X6 Y6 y0 y1 NE D6d X6d Y6d Y7 yy0 yy1 hb7
  have R7 := SlAt.mono (SlAt.below hR.out D7 (fun _ _ _ h => h)) D7.size (fun _ _ _ h => h)
  go_wp2_with fail
  refine (CH.out _ _ _ R7).mono ?_
  rintro e w8 ⟨b8, b9, rfl, hD8, hL8, hb8⟩
  have D8 := chnN hb8 D7
  have X8 : X2 w.heap.size ⟨s, dd, sp, dp⟩ ⟨s2, dd2, sp2, dp2⟩ w8 := ⟨X7.1.keep hb8, X7.2.keep hb8⟩
  clear hb8 D7 X7 R7
  go_wp2_with fail
  refine (NW.out _ _ _ _ hD8 hL8).mono ?_
  rintro e w9 ⟨hb9, hN⟩
  have D9 := chnN hb9 D8
  have X9 : X2 w.heap.size ⟨s, dd, sp, dp⟩ ⟨s2, dd2, sp2, dp2⟩ w9 := ⟨X8.1.keep hb9, X8.2.keep hb9⟩
  have z8 := D8.size
  clear hb9 D8 X8 hD8 hL8 CH NW
  have PCp : Hid (∀ W, Calls Try.prog 12 #[(.agg #[.int .i64 s, .int .i64 dd, .int .i64 sp, .int .i64 dp])] W fun e w' => e = .returned (.int .i64 (if pkOk ⟨s, dd, sp, dp⟩ then 0 else 1)) ∧ Below W.heap.size W w') := fun W => pcheck_any ⟨s, dd, sp, dp⟩ W
  have PCq : Hid (∀ W, Calls Try.prog 12 #[(.agg #[.int .i64 s2, .int .i64 dd2, .int .i64 sp2, .int .i64 dp2])] W fun e w' => e = .returned (.int .i64 (if pkOk ⟨s2, dd2, sp2, dp2⟩ then 0 else 1)) ∧ Below W.heap.size W w') := fun W => pcheck_any ⟨s2, dd2, sp2, dp2⟩ W
  have FLP : Hid (∀ W, Calls Try.prog 13 #[(.agg #[.int .i64 s, .int .i64 dd, .int .i64 sp, .int .i64 dp])] W fun e w' => e = .returned ((.agg #[.int .i64 dd, .int .i64 s, .int .i64 dp, .int .i64 sp])) ∧ Below W.heap.size W w') := fun W => pflip_any ⟨s, dd, sp, dp⟩ W
  have LT : Hid (∀ W, Below w.heap.size w W → Calls Try.prog 14 #[.slice A rs.length cap, (.agg #[.int .i64 s, .int .i64 dd, .int .i64 sp, .int .i64 dp])] W fun e w' => e = .returned (.bool (letsB (rs.map toRl) s dd sp dp)) ∧ Below W.heap.size W w') := fun W h => lets_any _ _ _ _ W ((rules_of (SlAt.below hR.out h (fun _ _ _ h => h))).mono h.size)
  rw [fire_netV] at hN
  rcases hN with ⟨hne, rfl⟩ | ⟨hz, m, rfl, hM, lo1, lo2, lo3, _⟩
  · have h8 : 8 < rs.length := by
      by_cases h : 8 < rs.length
      · exact h
      · rw [if_neg h] at hne
        exact absurd rfl hne
    rw [if_pos h8]
    have u8 : decide ((8 : Int) < (rs.length : Int)) = true := by simp; omega
    go_wp2_with fail
    go_ret
    exact ⟨rfl, D9⟩
  have zX := X9.2.lt
  have S0 := LSt.new (w := w) hM X9 D9 ⟨by omega, by omega, by omega⟩
  have TL : w.heap.size ≤ w9.heap.size := S0.T_le
  have hX : Hid (∀ W W', KT w9.heap.size W W' → X2 w.heap.size ⟨s, dd, sp, dp⟩ ⟨s2, dd2, sp2, dp2⟩ W → X2 w.heap.size ⟨s, dd, sp, dp⟩ ⟨s2, dd2, sp2, dp2⟩ W') := x2_kt zX
  generalize hT : w9.heap.size = T at S0 TL hX
  clear hT hM lo1 lo2 lo3 hz z8 zX z2
  have FS : ∀ {n : Nat} {M : Mnd} {w' : World}, LSt w T (X2 w.heap.size ⟨s, dd, sp, dp⟩ ⟨s2, dd2, sp2, dp2⟩) m (chainD (fireD rs)) chainL n M w' → (w'.cell? ⟨w.heap.size, 0, none⟩ = some (.int .i64 s) ∧ w'.cell? ⟨w.heap.size, 1, none⟩ = some (.int .i64 dd) ∧ w'.cell? ⟨w.heap.size, 2, none⟩ = some (.int .i64 sp) ∧ w'.cell? ⟨w.heap.size, 3, none⟩ = some (.int .i64 dp)) := fun h => ⟨h.x.1.at 0, h.x.1.at 1, h.x.1.at 2, h.x.1.at 3⟩
  have FQ : ∀ {n : Nat} {M : Mnd} {w' : World}, LSt w T (X2 w.heap.size ⟨s, dd, sp, dp⟩ ⟨s2, dd2, sp2, dp2⟩) m (chainD (fireD rs)) chainL n M w' → (w'.cell? ⟨w.heap.size + 1, 0, none⟩ = some (.int .i64 s2) ∧ w'.cell? ⟨w.heap.size + 1, 1, none⟩ = some (.int .i64 dd2) ∧ w'.cell? ⟨w.heap.size + 1, 2, none⟩ = some (.int .i64 sp2) ∧ w'.cell? ⟨w.heap.size + 1, 3, none⟩ = some (.int .i64 dp2)) := fun h => ⟨h.x.2.at 0, h.x.2.at 1, h.x.2.at 2, h.x.2.at 3⟩
  have FB : ∀ {n : Nat} {M : Mnd} {w' : World}, LSt w T (X2 w.heap.size ⟨s, dd, sp, dp⟩ ⟨s2, dd2, sp2, dp2⟩) m (chainD (fireD rs)) chainL n M w' → (w'.cell? ⟨w.heap.size, 0, none⟩ = some (.int .i64 s) ∧ w'.cell? ⟨w.heap.size, 1, none⟩ = some (.int .i64 dd) ∧ w'.cell? ⟨w.heap.size, 2, none⟩ = some (.int .i64 sp) ∧ w'.cell? ⟨w.heap.size, 3, none⟩ = some (.int .i64 dp) ∧ w'.cell? ⟨w.heap.size + 1, 0, none⟩ = some (.int .i64 s2) ∧ w'.cell? ⟨w.heap.size + 1, 1, none⟩ = some (.int .i64 dd2) ∧ w'.cell? ⟨w.heap.size + 1, 2, none⟩ = some (.int .i64 sp2) ∧ w'.cell? ⟨w.heap.size + 1, 3, none⟩ = some (.int .i64 dp2)) := fun h => ⟨h.x.1.at 0, h.x.1.at 1, h.x.1.at 2, h.x.1.at 3, h.x.2.at 0, h.x.2.at 1, h.x.2.at 2, h.x.2.at 3⟩
  obtain ⟨p0, p1, p2, p3, _⟩ := X9.1.four
  cases hpo : pkOk ⟨s, dd, sp, dp⟩
  · rw [hpo] at PCp
    simp only [Bool.false_eq_true, if_false] at PCp
    clear S0 FS FQ FB TL hX
    go_wp2_with fail
    refine (PCp.out _).mono ?_
    rintro e wa ⟨rfl, hba⟩
    have Da := chnN hba D9
    by_cases h8 : 8 < rs.length
    · have u8 : decide ((8 : Int) < (rs.length : Int)) = true := by simp; omega
      go_wp2_with fail
      go_ret
      exact ⟨rfl, Da⟩
    · have u8 : decide ((8 : Int) < (rs.length : Int)) = false := by simp; omega
      go_wp2_with fail
      go_ret
      exact ⟨rfl, Da⟩
  rw [hpo] at PCp
  simp only [if_true] at PCp
  have hp : Hid (pkOk ⟨s, dd, sp, dp⟩ = true) := hpo
  clear hpo
  go_wp2_with fail
  refine (PCp.out _).mono ?_
  rintro e wa ⟨rfl, hba⟩
  have Sa := S0.keep hX hba
  clear hba S0 p0 p1 p2 p3 PCp D9 X9
  obtain ⟨d0, d1, d2, d3⟩ := FQ Sa
  cases hqk : pkOk ⟨s2, dd2, sp2, dp2⟩
  · rw [hqk] at PCq
    simp only [Bool.false_eq_true, if_false] at PCq
    have Da := Sa.below
    clear FS FQ FB TL hX
    go_wp2_with fail
    refine (PCq.out _).mono ?_
    rintro e wb ⟨rfl, hbb⟩
    have Db := chnN hbb Da
    by_cases h8 : 8 < rs.length
    · have u8 : decide ((8 : Int) < (rs.length : Int)) = true := by simp; omega
      go_wp2_with fail
      go_ret
      exact ⟨rfl, Db⟩
    · have u8 : decide ((8 : Int) < (rs.length : Int)) = false := by simp; omega
      go_wp2_with fail
      go_ret
      exact ⟨rfl, Db⟩
  rw [hqk] at PCq
  simp only [if_true] at PCq
  have hqo : Hid (pkOk ⟨s2, dd2, sp2, dp2⟩ = true) := hqk
  clear hqk
  go_wp2_with fail
  refine (PCq.out _).mono ?_
  rintro e wb ⟨rfl, hbb⟩
  have S0 := Sa.keep hX hbb
  clear hbb Sa d0 d1 d2 d3 PCq
  go_upto_region 10 with fail
  cases hx0 : letsB (rs.map toRl) s dd sp dp
  · rw [hx0] at LT
    have hx : Hid (letsB (rs.map toRl) s dd sp dp = false) := hx0
    clear hx0
    have H1 : Hid (∀ W, LSt w T (X2 w.heap.size ⟨s, dd, sp, dp⟩ ⟨s2, dd2, sp2, dp2⟩) m (chainD (fireD rs)) chainL 0 noM W → Calls Try.prog 10 #[.pointer (some ⟨m.B, 0, none⟩), plA 1 1, .agg #[.int .i64 dd, .int .i64 s, .int .i64 dp, .int .i64 sp], .int .i64 0] W fun e w' => e = .returned (.tuple #[.agg #[.int .i64 0, .int .i64 0, .int .i64 0, .int .i64 0, .int .i64 0, .int .i64 0], .int .i64 7]) ∧ LSt w T (X2 w.heap.size ⟨s, dd, sp, dp⟩ ⟨s2, dd2, sp2, dp2⟩) m (chainD (fireD rs)) chainL 1 noM w' ∧ CK W w') := fun W h => handle_l hX 1 1 (flipP ⟨s, dd, sp, dp⟩) 0 h (by decide) (addrs_fire _) ok1 ok0 (r := badH 7 noM) (by rw [fire_answer, if_pos (flipP_ok hp.out)]; rfl)
    have H2 : Hid (∀ W, LSt w T (X2 w.heap.size ⟨s, dd, sp, dp⟩ ⟨s2, dd2, sp2, dp2⟩) m (chainD (fireD rs)) chainL 1 noM W → Calls Try.prog 10 #[.pointer (some ⟨m.B, 0, none⟩), plA 1 0, .agg #[.int .i64 s, .int .i64 dd, .int .i64 sp, .int .i64 dp], .int .i64 0] W fun e w' => e = .returned (.tuple #[.agg #[.int .i64 0, .int .i64 0, .int .i64 0, .int .i64 0, .int .i64 0, .int .i64 0], .int .i64 7]) ∧ LSt w T (X2 w.heap.size ⟨s, dd, sp, dp⟩ ⟨s2, dd2, sp2, dp2⟩) m (chainD (fireD rs)) chainL 2 noM w' ∧ CK W w') := fun W h => handle_l hX 1 0 ⟨s, dd, sp, dp⟩ 0 h (by decide) (addrs_fire _) ok1 ok0 (r := badH 7 noM) (by rw [fire_ask, if_pos hp.out]; rw [if_neg (by rw [hx.out]; simp)])
    have H3 : Hid (∀ W, LSt w T (X2 w.heap.size ⟨s, dd, sp, dp⟩ ⟨s2, dd2, sp2, dp2⟩) m (chainD (fireD rs)) chainL 2 noM W → Calls Try.prog 10 #[.pointer (some ⟨m.B, 0, none⟩), plA 1 1, .agg #[.int .i64 s2, .int .i64 dd2, .int .i64 sp2, .int .i64 dp2], .int .i64 0] W fun e w' => e = .returned (.tuple #[.agg #[.int .i64 0, .int .i64 0, .int .i64 0, .int .i64 0, .int .i64 0, .int .i64 0], .int .i64 7]) ∧ LSt w T (X2 w.heap.size ⟨s, dd, sp, dp⟩ ⟨s2, dd2, sp2, dp2⟩) m (chainD (fireD rs)) chainL 3 noM w' ∧ CK W w') := fun W h => handle_l hX 1 1 ⟨s2, dd2, sp2, dp2⟩ 0 h (by decide) (addrs_fire _) ok1 ok0 (r := badH 7 noM) (by rw [fire_answer, if_pos hqo.out]; rfl)
    have FGT : Hid (∀ W, LSt w T (X2 w.heap.size ⟨s, dd, sp, dp⟩ ⟨s2, dd2, sp2, dp2⟩) m (chainD (fireD rs)) chainL 3 noM W → Calls Try.prog 15 #[.pointer (some ⟨m.B, 0, none⟩), .int .i64 1, .agg #[.int .i64 s, .int .i64 dd, .int .i64 sp, .int .i64 dp], .int .i64 0] W fun e w' => e = .returned (.int .i64 7) ∧ LSt w T (X2 w.heap.size ⟨s, dd, sp, dp⟩ ⟨s2, dd2, sp2, dp2⟩) m (chainD (fireD rs)) chainL 3 noM w' ∧ CK W w') := fun W h => forget_l hX 1 ⟨s, dd, sp, dp⟩ 0 h ok1 (pkOk_ok hp.out) ok0 (r := ⟨7, noM⟩) (by rw [fire_forget]; rfl)
    have H4 : Hid (∀ W, LSt w T (X2 w.heap.size ⟨s, dd, sp, dp⟩ ⟨s2, dd2, sp2, dp2⟩) m (chainD (fireD rs)) chainL 3 noM W → Calls Try.prog 10 #[.pointer (some ⟨m.B, 0, none⟩), plA 1 1, .agg #[.int .i64 dd, .int .i64 s, .int .i64 dp, .int .i64 sp], .int .i64 0] W fun e w' => e = .returned (.tuple #[.agg #[.int .i64 0, .int .i64 0, .int .i64 0, .int .i64 0, .int .i64 0, .int .i64 0], .int .i64 7]) ∧ LSt w T (X2 w.heap.size ⟨s, dd, sp, dp⟩ ⟨s2, dd2, sp2, dp2⟩) m (chainD (fireD rs)) chainL 4 noM w' ∧ CK W w') := fun W h => handle_l hX 1 1 (flipP ⟨s, dd, sp, dp⟩) 0 h (by decide) (addrs_fire _) ok1 ok0 (r := badH 7 (noM)) (by rw [fire_answer, if_pos (flipP_ok hp.out)]; rfl)
    have KP : ∀ {n : Nat} {M : Mnd} {W W' : World}, LSt w T (X2 w.heap.size ⟨s, dd, sp, dp⟩ ⟨s2, dd2, sp2, dp2⟩) m (chainD (fireD rs)) chainL n M W → Below W.heap.size W W' → LSt w T (X2 w.heap.size ⟨s, dd, sp, dp⟩ ⟨s2, dd2, sp2, dp2⟩) m (chainD (fireD rs)) chainL n M W' := fun h hb => h.keep hX hb
    have AL : ∀ {n : Nat} {M : Mnd} {W : World} (o : Obj), LSt w T (X2 w.heap.size ⟨s, dd, sp, dp⟩ ⟨s2, dd2, sp2, dp2⟩) m (chainD (fireD rs)) chainL n M W → LSt w T (X2 w.heap.size ⟨s, dd, sp, dp⟩ ⟨s2, dd2, sp2, dp2⟩) m (chainD (fireD rs)) chainL n M (W.alloc o) := fun o h => h.alloc hX o
    have DR : ∀ {n : Nat} {M : Mnd} {W : World}, LSt w T (X2 w.heap.size ⟨s, dd, sp, dp⟩ ⟨s2, dd2, sp2, dp2⟩) m (chainD (fireD rs)) chainL n M W → LSt w T (X2 w.heap.size ⟨s, dd, sp, dp⟩ ⟨s2, dd2, sp2, dp2⟩) m (chainD (fireD rs)) chainL n M W.drew := fun h => h.drew hX
    have S6 : ∀ {n : Nat} {M : Mnd} {W : World} {k : Nat}, LSt w T (X2 w.heap.size ⟨s, dd, sp, dp⟩ ⟨s2, dd2, sp2, dp2⟩) m (chainD (fireD rs)) chainL n M W → ZB T k W → ∀ u0 u1 u2 u3 u4 u5 : Value, LSt w T (X2 w.heap.size ⟨s, dd, sp, dp⟩ ⟨s2, dd2, sp2, dp2⟩) m (chainD (fireD rs)) chainL n M ((((((W.setCell ⟨k, 0, none⟩ u0).setCell ⟨k, 1, none⟩ u1).setCell ⟨k, 2, none⟩ u2).setCell ⟨k, 3, none⟩ u3).setCell ⟨k, 4, none⟩ u4).setCell ⟨k, 5, none⟩ u5) := fun h z u0 u1 u2 u3 u4 u5 => LSt.set6 hX h z.2 (Nat.le_trans TL z.2) u0 u1 u2 u3 u4 u5
    have BE : ∀ {n : Nat} {M : Mnd} {W : World}, LSt w T (X2 w.heap.size ⟨s, dd, sp, dp⟩ ⟨s2, dd2, sp2, dp2⟩) m (chainD (fireD rs)) chainL n M W → Below w.heap.size w W := fun h => h.below
    have TW : ∀ {n : Nat} {M : Mnd} {W : World}, LSt w T (X2 w.heap.size ⟨s, dd, sp, dp⟩ ⟨s2, dd2, sp2, dp2⟩) m (chainD (fireD rs)) chainL n M W → T ≤ W.heap.size := fun h => h.tW
    have ZN : ∀ {W : World}, T ≤ W.heap.size → ZB T W.heap.size (W.alloc arZ) := fun h => zb_new h
    have ZBK : ∀ {k : Nat} {W W' : World}, ZB T k W → Below W.heap.size W W' → ZB T k W' := fun h hb => h.keep hb
    have ZBD : ∀ {k : Nat} {W : World}, ZB T k W → ZB T k W.drew := fun h => h.drew
    have ZBC : ∀ {k : Nat} {W W' : World}, ZB T k W → CK W W' → ZB T k W' := fun h hc => h.ck hc
    clear hX TL hp hqo hx
    generalize LSt w T (X2 w.heap.size ⟨s, dd, sp, dp⟩ ⟨s2, dd2, sp2, dp2⟩) m (chainD (fireD rs)) chainL = L at H1 H2 H3 H4 FGT KP AL DR S6 BE TW FS FQ FB S0
    have S0d := DR S0
    have S0a := DR (AL arZ S0)
    have Z0a := ZBD (ZN (TW S0))
    obtain ⟨c0, c1, c2, c3⟩ := FS S0
    go_cut [12] (fun vE wx => vE = .int .i64 7 ∧ L 1 noM wx)
    case first =>
      go_region_held3 (fun w' => w'.cell? ⟨w.heap.size, 0, none⟩ = some (.int .i64 s) ∧ w'.cell? ⟨w.heap.size, 1, none⟩ = some (.int .i64 dd) ∧ w'.cell? ⟨w.heap.size, 2, none⟩ = some (.int .i64 sp) ∧ w'.cell? ⟨w.heap.size, 3, none⟩ = some (.int .i64 dp)) (exact FS (by first | with_reducible exact Sh | with_reducible exact AL _ Sh | with_reducible exact S6 Sh Zh _ _ _ _ _ _ | with_reducible exact Sf | with_reducible exact AL _ Sf | with_reducible exact Sp | with_reducible exact AL _ Sp | with_reducible exact S0a | with_reducible exact S0d)) (first | (go_at_call 11; (with_reducible refine (PLC.out _ _ _).mono ?_); rintro e wp ⟨rfl, hbp⟩; have Sp := KP S0d hbp) | (go_at_call 11; (with_reducible refine (PLC.out _ _ _).mono ?_); rintro e wp ⟨rfl, hbp⟩; have Sp := KP S0a hbp; have Zp := ZBK Z0a hbp) | (go_at_call 13; (with_reducible refine (FLP.out _).mono ?_); rintro e wf ⟨rfl, hbf⟩; have Sf := KP Sp hbf; have Zf := ZBK Zp hbf) | (go_at_call 13; (with_reducible refine (FLP.out _).mono ?_); rintro e wf ⟨rfl, hbf⟩; have Sf := KP Sp hbf) | (go_at_call 13; (with_reducible refine (FLP.out _).mono ?_); rintro e wf ⟨rfl, hbf⟩; have Sf := KP (AL arZ Sp) hbf; have Zf := ZBK (ZN (TW Sp)) hbf) | (go_at_call 10; (with_reducible refine (H1.out _ Sf).mono ?_); rintro e wh ⟨rfl, Sh, Ch⟩; have Zh := ZBC Zf Ch; obtain ⟨⟨zz0, zz1, zz2, zz3, zz4, zz5⟩, ⟨zf0, zf1, zf2, zf3, zf4, zf5⟩⟩ := Zh.1.six) | (go_at_call 10; (with_reducible refine (H1.out _ Sf).mono ?_); rintro e wh ⟨rfl, Sh, Ch⟩; skip) | (go_at_call 10; (with_reducible refine (H1.out _ (AL arZ Sf)).mono ?_); rintro e wh ⟨rfl, Sh, Ch⟩; have Zh := ZBC (ZN (TW Sf)) Ch; obtain ⟨⟨zz0, zz1, zz2, zz3, zz4, zz5⟩, ⟨zf0, zf1, zf2, zf3, zf4, zf5⟩⟩ := Zh.1.six))
      all_goals
        go_wp2_with fail
        go_meet
        first
          | exact ⟨rfl, S6 Sh Zh _ _ _ _ _ _⟩
          | exact ⟨rfl, AL _ Sh⟩
    case rest =>
      clear H1 S0 S0d S0a Z0a c0 c1 c2 c3
      obtain ⟨rfl, S0⟩ := hcut
      go_upto_region 13 with fail
      have S0d := DR S0
      have S0a := DR (AL arZ S0)
      have Z0a := ZBD (ZN (TW S0))
      obtain ⟨c0, c1, c2, c3⟩ := FS S0
      go_cut [13, 8] (fun v13 v8 wx => ∃ g, v13 = .pointer (some ⟨g, 0, none⟩) ∧ v8 = .int .i64 7 ∧ Bk wx g #[.int .i64 0, .int .i64 0, .int .i64 0, .int .i64 0, .int .i64 0, .int .i64 0] 47 ∧ L 2 noM wx)
      case first =>
        go_region_held3 (fun w' => w'.cell? ⟨w.heap.size, 0, none⟩ = some (.int .i64 s) ∧ w'.cell? ⟨w.heap.size, 1, none⟩ = some (.int .i64 dd) ∧ w'.cell? ⟨w.heap.size, 2, none⟩ = some (.int .i64 sp) ∧ w'.cell? ⟨w.heap.size, 3, none⟩ = some (.int .i64 dp)) (exact FS (by first | with_reducible exact Sh | with_reducible exact AL _ Sh | with_reducible exact S6 Sh Zh _ _ _ _ _ _ | with_reducible exact Sf | with_reducible exact AL _ Sf | with_reducible exact Sp | with_reducible exact AL _ Sp | with_reducible exact S0a | with_reducible exact S0d)) (first | (go_at_call 11; (with_reducible refine (PLC.out _ _ _).mono ?_); rintro e wp ⟨rfl, hbp⟩; have Sp := KP S0d hbp) | (go_at_call 11; (with_reducible refine (PLC.out _ _ _).mono ?_); rintro e wp ⟨rfl, hbp⟩; have Sp := KP S0a hbp; have Zp := ZBK Z0a hbp) | (go_at_call 10; (with_reducible refine (H2.out _ Sp).mono ?_); rintro e wh ⟨rfl, Sh, Ch⟩; have Zh := ZBC Zp Ch; obtain ⟨⟨zz0, zz1, zz2, zz3, zz4, zz5⟩, ⟨zf0, zf1, zf2, zf3, zf4, zf5⟩⟩ := Zh.1.six) | (go_at_call 10; (with_reducible refine (H2.out _ Sp).mono ?_); rintro e wh ⟨rfl, Sh, Ch⟩; skip) | (go_at_call 10; (with_reducible refine (H2.out _ (AL arZ Sp)).mono ?_); rintro e wh ⟨rfl, Sh, Ch⟩; have Zh := ZBC (ZN (TW Sp)) Ch; obtain ⟨⟨zz0, zz1, zz2, zz3, zz4, zz5⟩, ⟨zf0, zf1, zf2, zf3, zf4, zf5⟩⟩ := Zh.1.six))
        all_goals
          go_wp2_with fail
          go_meet
          first
            | exact ⟨_, rfl, rfl, (by have := (((((Zh.1.setS (j := 0) (.int .i64 0)).setS (j := 1) (.int .i64 0)).setS (j := 2) (.int .i64 0)).setS (j := 3) (.int .i64 0)).setS (j := 4) (.int .i64 0)).setS (j := 5) (.int .i64 0); simpa using this), S6 Sh Zh _ _ _ _ _ _⟩
            | exact ⟨_, rfl, rfl, bk_new _ _ _, AL _ Sh⟩
      case rest =>
        clear H2 S0 S0d S0a Z0a c0 c1 c2 c3
        obtain ⟨g, rfl, rfl, G5, S0⟩ := hcut
        obtain ⟨c0, c1, c2, c3⟩ := FS S0
        obtain ⟨⟨g0, g1, g2, g3, g4, g5⟩, _⟩ := G5.six
        go_wp2_with fail
        refine (LT.out _ (BE S0)).mono ?_
        rintro e wl ⟨rfl, hbl⟩
        have Sl := KP S0 hbl
        have Gl := G5.keep hbl
        clear hbl S0 G5 c0 c1 c2 c3 g0 g1 g2 g3 g4 g5
        obtain ⟨c0, c1, c2, c3⟩ := FS Sl
        obtain ⟨⟨g0, g1, g2, g3, g4, g5⟩, _⟩ := Gl.six
        have S0 := Sl
        clear Sl
        go_upto_region 16 with fail
        clear c0 c1 c2 c3 g0 g1 g2 g3 g4 g5 Gl
        have S0d := DR S0
        have S0a := DR (AL arZ S0)
        have Z0a := ZBD (ZN (TW S0))
        obtain ⟨c0, c1, c2, c3⟩ := FQ S0
        go_cut [15] (fun vE wx => vE = .int .i64 7 ∧ L 3 noM wx)
        case first =>
          go_region_held3 (fun w' => w'.cell? ⟨w.heap.size + 1, 0, none⟩ = some (.int .i64 s2) ∧ w'.cell? ⟨w.heap.size + 1, 1, none⟩ = some (.int .i64 dd2) ∧ w'.cell? ⟨w.heap.size + 1, 2, none⟩ = some (.int .i64 sp2) ∧ w'.cell? ⟨w.heap.size + 1, 3, none⟩ = some (.int .i64 dp2)) (exact FQ (by first | with_reducible exact Sh | with_reducible exact AL _ Sh | with_reducible exact S6 Sh Zh _ _ _ _ _ _ | with_reducible exact Sf | with_reducible exact AL _ Sf | with_reducible exact Sp | with_reducible exact AL _ Sp | with_reducible exact S0a | with_reducible exact S0d)) (first | (go_at_call 11; (with_reducible refine (PLC.out _ _ _).mono ?_); rintro e wp ⟨rfl, hbp⟩; have Sp := KP S0d hbp) | (go_at_call 11; (with_reducible refine (PLC.out _ _ _).mono ?_); rintro e wp ⟨rfl, hbp⟩; have Sp := KP S0a hbp; have Zp := ZBK Z0a hbp) | (go_at_call 10; (with_reducible refine (H3.out _ Sp).mono ?_); rintro e wh ⟨rfl, Sh, Ch⟩; have Zh := ZBC Zp Ch; obtain ⟨⟨zz0, zz1, zz2, zz3, zz4, zz5⟩, ⟨zf0, zf1, zf2, zf3, zf4, zf5⟩⟩ := Zh.1.six) | (go_at_call 10; (with_reducible refine (H3.out _ Sp).mono ?_); rintro e wh ⟨rfl, Sh, Ch⟩; skip) | (go_at_call 10; (with_reducible refine (H3.out _ (AL arZ Sp)).mono ?_); rintro e wh ⟨rfl, Sh, Ch⟩; have Zh := ZBC (ZN (TW Sp)) Ch; obtain ⟨⟨zz0, zz1, zz2, zz3, zz4, zz5⟩, ⟨zf0, zf1, zf2, zf3, zf4, zf5⟩⟩ := Zh.1.six))
          all_goals
            go_wp2_with fail
            go_meet
            first
              | exact ⟨rfl, S6 Sh Zh _ _ _ _ _ _⟩
              | exact ⟨rfl, AL _ Sh⟩
        case rest =>
          clear H3 S0 S0d S0a Z0a c0 c1 c2 c3
          obtain ⟨rfl, S0⟩ := hcut
          obtain ⟨c0, c1, c2, c3⟩ := FS S0
          obtain ⟨d0, d1, d2, d3⟩ := FQ S0
          have S0d := DR S0
          go_wp2_with fail
          go_region
          have S9 := S0d
          clear S0 S0d c0 c1 c2 c3 d0 d1 d2 d3
          obtain ⟨c0, c1, c2, c3⟩ := FS S9
          go_wp2_with fail
          refine (FGT.out _ S9).mono ?_
          rintro e wg ⟨rfl, Sg, _⟩
          clear S9 FGT c0 c1 c2 c3
          obtain ⟨c0, c1, c2, c3⟩ := FS Sg
          have Sgd := DR Sg
          go_wp2_with fail
          go_region_held3 (fun w' => w'.cell? ⟨w.heap.size, 0, none⟩ = some (.int .i64 s) ∧ w'.cell? ⟨w.heap.size, 1, none⟩ = some (.int .i64 dd) ∧ w'.cell? ⟨w.heap.size, 2, none⟩ = some (.int .i64 sp) ∧ w'.cell? ⟨w.heap.size, 3, none⟩ = some (.int .i64 dp)) (exact FS (by first | with_reducible exact Sh | with_reducible exact Sf | with_reducible exact Sp | with_reducible exact Sgd)) (first | (go_at_call 11; (with_reducible refine (PLC.out _ _ _).mono ?_); rintro e wp ⟨rfl, hbp⟩; have Sp := KP Sgd hbp) | (go_at_call 13; (with_reducible refine (FLP.out _).mono ?_); rintro e wf ⟨rfl, hbf⟩; have Sf := KP Sp hbf) | (go_at_call 10; (with_reducible refine (H4.out _ Sf).mono ?_); rintro e wh ⟨rfl, Sh, _⟩))
          go_wp2_with fail
          go_ret
          exact ⟨rfl, BE Sh⟩
  · rw [hx0] at LT
    have hx : Hid (letsB (rs.map toRl) s dd sp dp = true) := hx0
    clear hx0
    by_cases hq0 : (⟨s2, dd2, sp2, dp2⟩ : Pk) = flipP ⟨s, dd, sp, dp⟩
    · have hq : Hid ((⟨s2, dd2, sp2, dp2⟩ : Pk) = flipP ⟨s, dd, sp, dp⟩) := hq0
      clear hq0
      have H1 : Hid (∀ W, LSt w T (X2 w.heap.size ⟨s, dd, sp, dp⟩ ⟨s2, dd2, sp2, dp2⟩) m (chainD (fireD rs)) chainL 0 noM W → Calls Try.prog 10 #[.pointer (some ⟨m.B, 0, none⟩), plA 1 1, .agg #[.int .i64 dd, .int .i64 s, .int .i64 dp, .int .i64 sp], .int .i64 0] W fun e w' => e = .returned (.tuple #[.agg #[.int .i64 0, .int .i64 0, .int .i64 0, .int .i64 0, .int .i64 0, .int .i64 0], .int .i64 7]) ∧ LSt w T (X2 w.heap.size ⟨s, dd, sp, dp⟩ ⟨s2, dd2, sp2, dp2⟩) m (chainD (fireD rs)) chainL 1 noM w' ∧ CK W w') := fun W h => handle_l hX 1 1 (flipP ⟨s, dd, sp, dp⟩) 0 h (by decide) (addrs_fire _) ok1 ok0 (r := badH 7 noM) (by rw [fire_answer, if_pos (flipP_ok hp.out)]; rfl)
      have H2 : Hid (∀ W, LSt w T (X2 w.heap.size ⟨s, dd, sp, dp⟩ ⟨s2, dd2, sp2, dp2⟩) m (chainD (fireD rs)) chainL 1 noM W → Calls Try.prog 10 #[.pointer (some ⟨m.B, 0, none⟩), plA 1 0, .agg #[.int .i64 s, .int .i64 dd, .int .i64 sp, .int .i64 dp], .int .i64 0] W fun e w' => e = .returned (.tuple #[.agg #[.int .i64 2, .int .i64 0, .int .i64 s, .int .i64 dd, .int .i64 sp, .int .i64 dp], .int .i64 0]) ∧ LSt w T (X2 w.heap.size ⟨s, dd, sp, dp⟩ ⟨s2, dd2, sp2, dp2⟩) m (chainD (fireD rs)) chainL 2 (learnP noM (.flow 1 ⟨s, dd, sp, dp⟩)) w' ∧ CK W w') := fun W h => handle_l hX 1 0 ⟨s, dd, sp, dp⟩ 0 h (by decide) (addrs_fire _) ok1 ok0 (r := ⟨0, (2, 0), ⟨s, dd, sp, dp⟩, learnP noM (.flow 1 ⟨s, dd, sp, dp⟩)⟩) (by rw [fire_ask, if_pos hp.out]; rw [if_pos hx.out])
      have H3 : Hid (∀ W, LSt w T (X2 w.heap.size ⟨s, dd, sp, dp⟩ ⟨s2, dd2, sp2, dp2⟩) m (chainD (fireD rs)) chainL 2 (learnP noM (.flow 1 ⟨s, dd, sp, dp⟩)) W → Calls Try.prog 10 #[.pointer (some ⟨m.B, 0, none⟩), plA 1 1, .agg #[.int .i64 s2, .int .i64 dd2, .int .i64 sp2, .int .i64 dp2], .int .i64 0] W fun e w' => e = .returned (.tuple #[.agg #[.int .i64 0, .int .i64 0, .int .i64 s2, .int .i64 dd2, .int .i64 sp2, .int .i64 dp2], .int .i64 0]) ∧ LSt w T (X2 w.heap.size ⟨s, dd, sp, dp⟩ ⟨s2, dd2, sp2, dp2⟩) m (chainD (fireD rs)) chainL 3 (learnP noM (.flow 1 ⟨s, dd, sp, dp⟩)) w' ∧ CK W w') := fun W h => handle_l hX 1 1 ⟨s2, dd2, sp2, dp2⟩ 0 h (by decide) (addrs_fire _) ok1 ok0 (r := ⟨0, (0, 0), ⟨s2, dd2, sp2, dp2⟩, (learnP noM (.flow 1 ⟨s, dd, sp, dp⟩))⟩) (by rw [fire_answer, if_pos hqo.out]; rw [if_pos (by rw [hq.out]; simp [learnP, flip_flip, putF_same])])
      have FGT : Hid (∀ W, LSt w T (X2 w.heap.size ⟨s, dd, sp, dp⟩ ⟨s2, dd2, sp2, dp2⟩) m (chainD (fireD rs)) chainL 3 (learnP noM (.flow 1 ⟨s, dd, sp, dp⟩)) W → Calls Try.prog 15 #[.pointer (some ⟨m.B, 0, none⟩), .int .i64 1, .agg #[.int .i64 s, .int .i64 dd, .int .i64 sp, .int .i64 dp], .int .i64 0] W fun e w' => e = .returned (.int .i64 0) ∧ LSt w T (X2 w.heap.size ⟨s, dd, sp, dp⟩ ⟨s2, dd2, sp2, dp2⟩) m (chainD (fireD rs)) chainL 3 { fl := delF (learnP noM (.flow 1 ⟨s, dd, sp, dp⟩)).fl (1, ⟨s, dd, sp, dp⟩), ow := noM.ow, bk := noM.bk } w' ∧ CK W w') := fun W h => forget_l hX 1 ⟨s, dd, sp, dp⟩ 0 h ok1 (pkOk_ok hp.out) ok0 (r := ⟨0, { fl := delF (learnP noM (.flow 1 ⟨s, dd, sp, dp⟩)).fl (1, ⟨s, dd, sp, dp⟩), ow := noM.ow, bk := noM.bk }⟩) (by rw [fire_forget]; rw [if_pos (by simp [learnP, putF_same])]; rfl)
      have H4 : Hid (∀ W, LSt w T (X2 w.heap.size ⟨s, dd, sp, dp⟩ ⟨s2, dd2, sp2, dp2⟩) m (chainD (fireD rs)) chainL 3 { fl := delF (learnP noM (.flow 1 ⟨s, dd, sp, dp⟩)).fl (1, ⟨s, dd, sp, dp⟩), ow := noM.ow, bk := noM.bk } W → Calls Try.prog 10 #[.pointer (some ⟨m.B, 0, none⟩), plA 1 1, .agg #[.int .i64 dd, .int .i64 s, .int .i64 dp, .int .i64 sp], .int .i64 0] W fun e w' => e = .returned (.tuple #[.agg #[.int .i64 0, .int .i64 0, .int .i64 0, .int .i64 0, .int .i64 0, .int .i64 0], .int .i64 7]) ∧ LSt w T (X2 w.heap.size ⟨s, dd, sp, dp⟩ ⟨s2, dd2, sp2, dp2⟩) m (chainD (fireD rs)) chainL 4 { fl := delF (learnP noM (.flow 1 ⟨s, dd, sp, dp⟩)).fl (1, ⟨s, dd, sp, dp⟩), ow := noM.ow, bk := noM.bk } w' ∧ CK W w') := fun W h => handle_l hX 1 1 (flipP ⟨s, dd, sp, dp⟩) 0 h (by decide) (addrs_fire _) ok1 ok0 (r := badH 7 ({ fl := delF (learnP noM (.flow 1 ⟨s, dd, sp, dp⟩)).fl (1, ⟨s, dd, sp, dp⟩), ow := noM.ow, bk := noM.bk })) (by rw [fire_answer, if_pos (flipP_ok hp.out)]; rw [if_neg (by simp [flip_flip, delF_same])])
      have KP : ∀ {n : Nat} {M : Mnd} {W W' : World}, LSt w T (X2 w.heap.size ⟨s, dd, sp, dp⟩ ⟨s2, dd2, sp2, dp2⟩) m (chainD (fireD rs)) chainL n M W → Below W.heap.size W W' → LSt w T (X2 w.heap.size ⟨s, dd, sp, dp⟩ ⟨s2, dd2, sp2, dp2⟩) m (chainD (fireD rs)) chainL n M W' := fun h hb => h.keep hX hb
      have AL : ∀ {n : Nat} {M : Mnd} {W : World} (o : Obj), LSt w T (X2 w.heap.size ⟨s, dd, sp, dp⟩ ⟨s2, dd2, sp2, dp2⟩) m (chainD (fireD rs)) chainL n M W → LSt w T (X2 w.heap.size ⟨s, dd, sp, dp⟩ ⟨s2, dd2, sp2, dp2⟩) m (chainD (fireD rs)) chainL n M (W.alloc o) := fun o h => h.alloc hX o
      have DR : ∀ {n : Nat} {M : Mnd} {W : World}, LSt w T (X2 w.heap.size ⟨s, dd, sp, dp⟩ ⟨s2, dd2, sp2, dp2⟩) m (chainD (fireD rs)) chainL n M W → LSt w T (X2 w.heap.size ⟨s, dd, sp, dp⟩ ⟨s2, dd2, sp2, dp2⟩) m (chainD (fireD rs)) chainL n M W.drew := fun h => h.drew hX
      have S6 : ∀ {n : Nat} {M : Mnd} {W : World} {k : Nat}, LSt w T (X2 w.heap.size ⟨s, dd, sp, dp⟩ ⟨s2, dd2, sp2, dp2⟩) m (chainD (fireD rs)) chainL n M W → ZB T k W → ∀ u0 u1 u2 u3 u4 u5 : Value, LSt w T (X2 w.heap.size ⟨s, dd, sp, dp⟩ ⟨s2, dd2, sp2, dp2⟩) m (chainD (fireD rs)) chainL n M ((((((W.setCell ⟨k, 0, none⟩ u0).setCell ⟨k, 1, none⟩ u1).setCell ⟨k, 2, none⟩ u2).setCell ⟨k, 3, none⟩ u3).setCell ⟨k, 4, none⟩ u4).setCell ⟨k, 5, none⟩ u5) := fun h z u0 u1 u2 u3 u4 u5 => LSt.set6 hX h z.2 (Nat.le_trans TL z.2) u0 u1 u2 u3 u4 u5
      have BE : ∀ {n : Nat} {M : Mnd} {W : World}, LSt w T (X2 w.heap.size ⟨s, dd, sp, dp⟩ ⟨s2, dd2, sp2, dp2⟩) m (chainD (fireD rs)) chainL n M W → Below w.heap.size w W := fun h => h.below
      have TW : ∀ {n : Nat} {M : Mnd} {W : World}, LSt w T (X2 w.heap.size ⟨s, dd, sp, dp⟩ ⟨s2, dd2, sp2, dp2⟩) m (chainD (fireD rs)) chainL n M W → T ≤ W.heap.size := fun h => h.tW
      have ZN : ∀ {W : World}, T ≤ W.heap.size → ZB T W.heap.size (W.alloc arZ) := fun h => zb_new h
      have ZBK : ∀ {k : Nat} {W W' : World}, ZB T k W → Below W.heap.size W W' → ZB T k W' := fun h hb => h.keep hb
      have ZBD : ∀ {k : Nat} {W : World}, ZB T k W → ZB T k W.drew := fun h => h.drew
      have ZBC : ∀ {k : Nat} {W W' : World}, ZB T k W → CK W W' → ZB T k W' := fun h hc => h.ck hc
      clear hX TL hp hqo hx 
      have PNE := fun w => packet_ne_self ⟨s, dd, sp, dp⟩ w
      have PEQ : ∀ w, (binOp .eql 24 (.agg #[.int .i64 s2, .int .i64 dd2, .int .i64 sp2, .int .i64 dp2]) (.agg #[.int .i64 dd, .int .i64 s, .int .i64 dp, .int .i64 sp])).run Try.prog w = .ok (.bool true) w := fun w => by
        have := packet_eq ⟨s2, dd2, sp2, dp2⟩ (flipP ⟨s, dd, sp, dp⟩) w
        rw [(pk_eqB _ _).2 hq.out] at this
        exact this
      clear hq
      generalize LSt w T (X2 w.heap.size ⟨s, dd, sp, dp⟩ ⟨s2, dd2, sp2, dp2⟩) m (chainD (fireD rs)) chainL = L at H1 H2 H3 H4 FGT KP AL DR S6 BE TW FS FQ FB S0
      generalize hM3 : ({ fl := delF (learnP noM (.flow 1 ⟨s, dd, sp, dp⟩)).fl (1, ⟨s, dd, sp, dp⟩), ow := noM.ow, bk := noM.bk } : Mnd) = M3 at FGT H4
      generalize hM1 : learnP noM (.flow 1 ⟨s, dd, sp, dp⟩) = M1 at H2 H3 FGT
      clear hM3 hM1
      have S0d := DR S0
      have S0a := DR (AL arZ S0)
      have Z0a := ZBD (ZN (TW S0))
      obtain ⟨c0, c1, c2, c3⟩ := FS S0
      go_cut [12] (fun vE wx => vE = .int .i64 7 ∧ L 1 noM wx)
      case first =>
        go_region_held3 (fun w' => w'.cell? ⟨w.heap.size, 0, none⟩ = some (.int .i64 s) ∧ w'.cell? ⟨w.heap.size, 1, none⟩ = some (.int .i64 dd) ∧ w'.cell? ⟨w.heap.size, 2, none⟩ = some (.int .i64 sp) ∧ w'.cell? ⟨w.heap.size, 3, none⟩ = some (.int .i64 dp)) (exact FS (by first | with_reducible exact Sh | with_reducible exact AL _ Sh | with_reducible exact S6 Sh Zh _ _ _ _ _ _ | with_reducible exact Sf | with_reducible exact AL _ Sf | with_reducible exact Sp | with_reducible exact AL _ Sp | with_reducible exact S0a | with_reducible exact S0d)) (first | (go_at_call 11; (with_reducible refine (PLC.out _ _ _).mono ?_); rintro e wp ⟨rfl, hbp⟩; have Sp := KP S0d hbp) | (go_at_call 11; (with_reducible refine (PLC.out _ _ _).mono ?_); rintro e wp ⟨rfl, hbp⟩; have Sp := KP S0a hbp; have Zp := ZBK Z0a hbp) | (go_at_call 13; (with_reducible refine (FLP.out _).mono ?_); rintro e wf ⟨rfl, hbf⟩; have Sf := KP Sp hbf; have Zf := ZBK Zp hbf) | (go_at_call 13; (with_reducible refine (FLP.out _).mono ?_); rintro e wf ⟨rfl, hbf⟩; have Sf := KP Sp hbf) | (go_at_call 13; (with_reducible refine (FLP.out _).mono ?_); rintro e wf ⟨rfl, hbf⟩; have Sf := KP (AL arZ Sp) hbf; have Zf := ZBK (ZN (TW Sp)) hbf) | (go_at_call 10; (with_reducible refine (H1.out _ Sf).mono ?_); rintro e wh ⟨rfl, Sh, Ch⟩; have Zh := ZBC Zf Ch; obtain ⟨⟨zz0, zz1, zz2, zz3, zz4, zz5⟩, ⟨zf0, zf1, zf2, zf3, zf4, zf5⟩⟩ := Zh.1.six) | (go_at_call 10; (with_reducible refine (H1.out _ Sf).mono ?_); rintro e wh ⟨rfl, Sh, Ch⟩; skip) | (go_at_call 10; (with_reducible refine (H1.out _ (AL arZ Sf)).mono ?_); rintro e wh ⟨rfl, Sh, Ch⟩; have Zh := ZBC (ZN (TW Sf)) Ch; obtain ⟨⟨zz0, zz1, zz2, zz3, zz4, zz5⟩, ⟨zf0, zf1, zf2, zf3, zf4, zf5⟩⟩ := Zh.1.six))
        all_goals
          go_wp2_with fail
          go_meet
          first
            | exact ⟨rfl, S6 Sh Zh _ _ _ _ _ _⟩
            | exact ⟨rfl, AL _ Sh⟩
      case rest =>
        clear H1 S0 S0d S0a Z0a c0 c1 c2 c3
        obtain ⟨rfl, S0⟩ := hcut
        go_upto_region 13 with fail
        have S0d := DR S0
        have S0a := DR (AL arZ S0)
        have Z0a := ZBD (ZN (TW S0))
        obtain ⟨c0, c1, c2, c3⟩ := FS S0
        go_cut [13, 8] (fun v13 v8 wx => ∃ g, v13 = .pointer (some ⟨g, 0, none⟩) ∧ v8 = .int .i64 0 ∧ Bk wx g #[.int .i64 2, .int .i64 0, .int .i64 s, .int .i64 dd, .int .i64 sp, .int .i64 dp] 47 ∧ L 2 M1 wx)
        case first =>
          go_region_held3 (fun w' => w'.cell? ⟨w.heap.size, 0, none⟩ = some (.int .i64 s) ∧ w'.cell? ⟨w.heap.size, 1, none⟩ = some (.int .i64 dd) ∧ w'.cell? ⟨w.heap.size, 2, none⟩ = some (.int .i64 sp) ∧ w'.cell? ⟨w.heap.size, 3, none⟩ = some (.int .i64 dp)) (exact FS (by first | with_reducible exact Sh | with_reducible exact AL _ Sh | with_reducible exact S6 Sh Zh _ _ _ _ _ _ | with_reducible exact Sf | with_reducible exact AL _ Sf | with_reducible exact Sp | with_reducible exact AL _ Sp | with_reducible exact S0a | with_reducible exact S0d)) (first | (go_at_call 11; (with_reducible refine (PLC.out _ _ _).mono ?_); rintro e wp ⟨rfl, hbp⟩; have Sp := KP S0d hbp) | (go_at_call 11; (with_reducible refine (PLC.out _ _ _).mono ?_); rintro e wp ⟨rfl, hbp⟩; have Sp := KP S0a hbp; have Zp := ZBK Z0a hbp) | (go_at_call 10; (with_reducible refine (H2.out _ Sp).mono ?_); rintro e wh ⟨rfl, Sh, Ch⟩; have Zh := ZBC Zp Ch; obtain ⟨⟨zz0, zz1, zz2, zz3, zz4, zz5⟩, ⟨zf0, zf1, zf2, zf3, zf4, zf5⟩⟩ := Zh.1.six) | (go_at_call 10; (with_reducible refine (H2.out _ Sp).mono ?_); rintro e wh ⟨rfl, Sh, Ch⟩; skip) | (go_at_call 10; (with_reducible refine (H2.out _ (AL arZ Sp)).mono ?_); rintro e wh ⟨rfl, Sh, Ch⟩; have Zh := ZBC (ZN (TW Sp)) Ch; obtain ⟨⟨zz0, zz1, zz2, zz3, zz4, zz5⟩, ⟨zf0, zf1, zf2, zf3, zf4, zf5⟩⟩ := Zh.1.six))
          all_goals
            go_wp2_with fail
            go_meet
            first
              | exact ⟨_, rfl, rfl, (by have := (((((Zh.1.setS (j := 0) (.int .i64 2)).setS (j := 1) (.int .i64 0)).setS (j := 2) (.int .i64 s)).setS (j := 3) (.int .i64 dd)).setS (j := 4) (.int .i64 sp)).setS (j := 5) (.int .i64 dp); simpa using this), S6 Sh Zh _ _ _ _ _ _⟩
              | exact ⟨_, rfl, rfl, bk_new _ _ _, AL _ Sh⟩
        case rest =>
          clear H2 S0 S0d S0a Z0a c0 c1 c2 c3
          obtain ⟨g, rfl, rfl, G5, S0⟩ := hcut
          obtain ⟨c0, c1, c2, c3⟩ := FS S0
          obtain ⟨⟨g0, g1, g2, g3, g4, g5⟩, _⟩ := G5.six
          go_wp2_with fail
          refine (LT.out _ (BE S0)).mono ?_
          rintro e wl ⟨rfl, hbl⟩
          have Sl := KP S0 hbl
          have Gl := G5.keep hbl
          clear hbl S0 G5 c0 c1 c2 c3 g0 g1 g2 g3 g4 g5
          obtain ⟨c0, c1, c2, c3⟩ := FS Sl
          obtain ⟨⟨g0, g1, g2, g3, g4, g5⟩, _⟩ := Gl.six
          have S0 := Sl
          clear Sl
          go_upto_region 16 with fail
          clear c0 c1 c2 c3 g0 g1 g2 g3 g4 g5 Gl
          have S0d := DR S0
          have S0a := DR (AL arZ S0)
          have Z0a := ZBD (ZN (TW S0))
          obtain ⟨c0, c1, c2, c3⟩ := FQ S0
          go_cut [15] (fun vE wx => vE = .int .i64 0 ∧ L 3 M1 wx)
          case first =>
            go_region_held3 (fun w' => w'.cell? ⟨w.heap.size + 1, 0, none⟩ = some (.int .i64 s2) ∧ w'.cell? ⟨w.heap.size + 1, 1, none⟩ = some (.int .i64 dd2) ∧ w'.cell? ⟨w.heap.size + 1, 2, none⟩ = some (.int .i64 sp2) ∧ w'.cell? ⟨w.heap.size + 1, 3, none⟩ = some (.int .i64 dp2)) (exact FQ (by first | with_reducible exact Sh | with_reducible exact AL _ Sh | with_reducible exact S6 Sh Zh _ _ _ _ _ _ | with_reducible exact Sf | with_reducible exact AL _ Sf | with_reducible exact Sp | with_reducible exact AL _ Sp | with_reducible exact S0a | with_reducible exact S0d)) (first | (go_at_call 11; (with_reducible refine (PLC.out _ _ _).mono ?_); rintro e wp ⟨rfl, hbp⟩; have Sp := KP S0d hbp) | (go_at_call 11; (with_reducible refine (PLC.out _ _ _).mono ?_); rintro e wp ⟨rfl, hbp⟩; have Sp := KP S0a hbp; have Zp := ZBK Z0a hbp) | (go_at_call 10; (with_reducible refine (H3.out _ Sp).mono ?_); rintro e wh ⟨rfl, Sh, Ch⟩; have Zh := ZBC Zp Ch; obtain ⟨⟨zz0, zz1, zz2, zz3, zz4, zz5⟩, ⟨zf0, zf1, zf2, zf3, zf4, zf5⟩⟩ := Zh.1.six) | (go_at_call 10; (with_reducible refine (H3.out _ Sp).mono ?_); rintro e wh ⟨rfl, Sh, Ch⟩; skip) | (go_at_call 10; (with_reducible refine (H3.out _ (AL arZ Sp)).mono ?_); rintro e wh ⟨rfl, Sh, Ch⟩; have Zh := ZBC (ZN (TW Sp)) Ch; obtain ⟨⟨zz0, zz1, zz2, zz3, zz4, zz5⟩, ⟨zf0, zf1, zf2, zf3, zf4, zf5⟩⟩ := Zh.1.six))
            all_goals
              go_wp2_with fail
              go_meet
              first
                | exact ⟨rfl, S6 Sh Zh _ _ _ _ _ _⟩
                | exact ⟨rfl, AL _ Sh⟩
          case rest =>
            clear H3 S0 S0d S0a Z0a c0 c1 c2 c3
            obtain ⟨rfl, S0⟩ := hcut
            obtain ⟨c0, c1, c2, c3⟩ := FS S0
            obtain ⟨d0, d1, d2, d3⟩ := FQ S0
            have S0d := DR S0
            go_wp2_with fail
            go_region_held3 (fun w' => w'.cell? ⟨w.heap.size, 0, none⟩ = some (.int .i64 s) ∧ w'.cell? ⟨w.heap.size, 1, none⟩ = some (.int .i64 dd) ∧ w'.cell? ⟨w.heap.size, 2, none⟩ = some (.int .i64 sp) ∧ w'.cell? ⟨w.heap.size, 3, none⟩ = some (.int .i64 dp) ∧ w'.cell? ⟨w.heap.size + 1, 0, none⟩ = some (.int .i64 s2) ∧ w'.cell? ⟨w.heap.size + 1, 1, none⟩ = some (.int .i64 dd2) ∧ w'.cell? ⟨w.heap.size + 1, 2, none⟩ = some (.int .i64 sp2) ∧ w'.cell? ⟨w.heap.size + 1, 3, none⟩ = some (.int .i64 dp2)) (exact FB (by first | with_reducible exact Sz | with_reducible exact S0d | with_reducible exact S0)) ((go_at_call 13; (with_reducible refine (FLP.out _).mono ?_); rintro e wz ⟨rfl, hbz⟩; have Sz := KP S0d hbz))
            have S9 := Sz
            clear Sz S0 S0d c0 c1 c2 c3 d0 d1 d2 d3 PEQ
            obtain ⟨c0, c1, c2, c3⟩ := FS S9
            go_wp2_with fail
            refine (FGT.out _ S9).mono ?_
            rintro e wg ⟨rfl, Sg, _⟩
            clear S9 FGT c0 c1 c2 c3
            obtain ⟨c0, c1, c2, c3⟩ := FS Sg
            have Sgd := DR Sg
            go_wp2_with fail
            go_region_held3 (fun w' => w'.cell? ⟨w.heap.size, 0, none⟩ = some (.int .i64 s) ∧ w'.cell? ⟨w.heap.size, 1, none⟩ = some (.int .i64 dd) ∧ w'.cell? ⟨w.heap.size, 2, none⟩ = some (.int .i64 sp) ∧ w'.cell? ⟨w.heap.size, 3, none⟩ = some (.int .i64 dp)) (exact FS (by first | with_reducible exact Sh | with_reducible exact Sf | with_reducible exact Sp | with_reducible exact Sgd)) (first | (go_at_call 11; (with_reducible refine (PLC.out _ _ _).mono ?_); rintro e wp ⟨rfl, hbp⟩; have Sp := KP Sgd hbp) | (go_at_call 13; (with_reducible refine (FLP.out _).mono ?_); rintro e wf ⟨rfl, hbf⟩; have Sf := KP Sp hbf) | (go_at_call 10; (with_reducible refine (H4.out _ Sf).mono ?_); rintro e wh ⟨rfl, Sh, _⟩))
            go_wp2_with fail
            go_ret
            exact ⟨rfl, BE Sh⟩
    · have hq : Hid (¬ (⟨s2, dd2, sp2, dp2⟩ : Pk) = flipP ⟨s, dd, sp, dp⟩) := hq0
      clear hq0
      have H1 : Hid (∀ W, LSt w T (X2 w.heap.size ⟨s, dd, sp, dp⟩ ⟨s2, dd2, sp2, dp2⟩) m (chainD (fireD rs)) chainL 0 noM W → Calls Try.prog 10 #[.pointer (some ⟨m.B, 0, none⟩), plA 1 1, .agg #[.int .i64 dd, .int .i64 s, .int .i64 dp, .int .i64 sp], .int .i64 0] W fun e w' => e = .returned (.tuple #[.agg #[.int .i64 0, .int .i64 0, .int .i64 0, .int .i64 0, .int .i64 0, .int .i64 0], .int .i64 7]) ∧ LSt w T (X2 w.heap.size ⟨s, dd, sp, dp⟩ ⟨s2, dd2, sp2, dp2⟩) m (chainD (fireD rs)) chainL 1 noM w' ∧ CK W w') := fun W h => handle_l hX 1 1 (flipP ⟨s, dd, sp, dp⟩) 0 h (by decide) (addrs_fire _) ok1 ok0 (r := badH 7 noM) (by rw [fire_answer, if_pos (flipP_ok hp.out)]; rfl)
      have H2 : Hid (∀ W, LSt w T (X2 w.heap.size ⟨s, dd, sp, dp⟩ ⟨s2, dd2, sp2, dp2⟩) m (chainD (fireD rs)) chainL 1 noM W → Calls Try.prog 10 #[.pointer (some ⟨m.B, 0, none⟩), plA 1 0, .agg #[.int .i64 s, .int .i64 dd, .int .i64 sp, .int .i64 dp], .int .i64 0] W fun e w' => e = .returned (.tuple #[.agg #[.int .i64 2, .int .i64 0, .int .i64 s, .int .i64 dd, .int .i64 sp, .int .i64 dp], .int .i64 0]) ∧ LSt w T (X2 w.heap.size ⟨s, dd, sp, dp⟩ ⟨s2, dd2, sp2, dp2⟩) m (chainD (fireD rs)) chainL 2 (learnP noM (.flow 1 ⟨s, dd, sp, dp⟩)) w' ∧ CK W w') := fun W h => handle_l hX 1 0 ⟨s, dd, sp, dp⟩ 0 h (by decide) (addrs_fire _) ok1 ok0 (r := ⟨0, (2, 0), ⟨s, dd, sp, dp⟩, learnP noM (.flow 1 ⟨s, dd, sp, dp⟩)⟩) (by rw [fire_ask, if_pos hp.out]; rw [if_pos hx.out])
      have H3 : Hid (∀ W, LSt w T (X2 w.heap.size ⟨s, dd, sp, dp⟩ ⟨s2, dd2, sp2, dp2⟩) m (chainD (fireD rs)) chainL 2 (learnP noM (.flow 1 ⟨s, dd, sp, dp⟩)) W → Calls Try.prog 10 #[.pointer (some ⟨m.B, 0, none⟩), plA 1 1, .agg #[.int .i64 s2, .int .i64 dd2, .int .i64 sp2, .int .i64 dp2], .int .i64 0] W fun e w' => e = .returned (.tuple #[.agg #[.int .i64 0, .int .i64 0, .int .i64 0, .int .i64 0, .int .i64 0, .int .i64 0], .int .i64 7]) ∧ LSt w T (X2 w.heap.size ⟨s, dd, sp, dp⟩ ⟨s2, dd2, sp2, dp2⟩) m (chainD (fireD rs)) chainL 3 (learnP noM (.flow 1 ⟨s, dd, sp, dp⟩)) w' ∧ CK W w') := fun W h => handle_l hX 1 1 ⟨s2, dd2, sp2, dp2⟩ 0 h (by decide) (addrs_fire _) ok1 ok0 (r := badH 7 (learnP noM (.flow 1 ⟨s, dd, sp, dp⟩))) (by rw [fire_answer, if_pos hqo.out]; rw [if_neg (by simp [learnP, putF_other _ _ (show ((1 : Int), flipP ⟨s2, dd2, sp2, dp2⟩) ≠ (1, ⟨s, dd, sp, dp⟩) from fun e => hq.out (by simp only [Prod.mk.injEq, true_and] at e; rw [← e, flip_flip])), noM])])
      have FGT : Hid (∀ W, LSt w T (X2 w.heap.size ⟨s, dd, sp, dp⟩ ⟨s2, dd2, sp2, dp2⟩) m (chainD (fireD rs)) chainL 3 (learnP noM (.flow 1 ⟨s, dd, sp, dp⟩)) W → Calls Try.prog 15 #[.pointer (some ⟨m.B, 0, none⟩), .int .i64 1, .agg #[.int .i64 s, .int .i64 dd, .int .i64 sp, .int .i64 dp], .int .i64 0] W fun e w' => e = .returned (.int .i64 0) ∧ LSt w T (X2 w.heap.size ⟨s, dd, sp, dp⟩ ⟨s2, dd2, sp2, dp2⟩) m (chainD (fireD rs)) chainL 3 { fl := delF (learnP noM (.flow 1 ⟨s, dd, sp, dp⟩)).fl (1, ⟨s, dd, sp, dp⟩), ow := noM.ow, bk := noM.bk } w' ∧ CK W w') := fun W h => forget_l hX 1 ⟨s, dd, sp, dp⟩ 0 h ok1 (pkOk_ok hp.out) ok0 (r := ⟨0, { fl := delF (learnP noM (.flow 1 ⟨s, dd, sp, dp⟩)).fl (1, ⟨s, dd, sp, dp⟩), ow := noM.ow, bk := noM.bk }⟩) (by rw [fire_forget]; rw [if_pos (by simp [learnP, putF_same])]; rfl)
      have H4 : Hid (∀ W, LSt w T (X2 w.heap.size ⟨s, dd, sp, dp⟩ ⟨s2, dd2, sp2, dp2⟩) m (chainD (fireD rs)) chainL 3 { fl := delF (learnP noM (.flow 1 ⟨s, dd, sp, dp⟩)).fl (1, ⟨s, dd, sp, dp⟩), ow := noM.ow, bk := noM.bk } W → Calls Try.prog 10 #[.pointer (some ⟨m.B, 0, none⟩), plA 1 1, .agg #[.int .i64 dd, .int .i64 s, .int .i64 dp, .int .i64 sp], .int .i64 0] W fun e w' => e = .returned (.tuple #[.agg #[.int .i64 0, .int .i64 0, .int .i64 0, .int .i64 0, .int .i64 0, .int .i64 0], .int .i64 7]) ∧ LSt w T (X2 w.heap.size ⟨s, dd, sp, dp⟩ ⟨s2, dd2, sp2, dp2⟩) m (chainD (fireD rs)) chainL 4 { fl := delF (learnP noM (.flow 1 ⟨s, dd, sp, dp⟩)).fl (1, ⟨s, dd, sp, dp⟩), ow := noM.ow, bk := noM.bk } w' ∧ CK W w') := fun W h => handle_l hX 1 1 (flipP ⟨s, dd, sp, dp⟩) 0 h (by decide) (addrs_fire _) ok1 ok0 (r := badH 7 ({ fl := delF (learnP noM (.flow 1 ⟨s, dd, sp, dp⟩)).fl (1, ⟨s, dd, sp, dp⟩), ow := noM.ow, bk := noM.bk })) (by rw [fire_answer, if_pos (flipP_ok hp.out)]; rw [if_neg (by simp [flip_flip, delF_same])])
      have KP : ∀ {n : Nat} {M : Mnd} {W W' : World}, LSt w T (X2 w.heap.size ⟨s, dd, sp, dp⟩ ⟨s2, dd2, sp2, dp2⟩) m (chainD (fireD rs)) chainL n M W → Below W.heap.size W W' → LSt w T (X2 w.heap.size ⟨s, dd, sp, dp⟩ ⟨s2, dd2, sp2, dp2⟩) m (chainD (fireD rs)) chainL n M W' := fun h hb => h.keep hX hb
      have AL : ∀ {n : Nat} {M : Mnd} {W : World} (o : Obj), LSt w T (X2 w.heap.size ⟨s, dd, sp, dp⟩ ⟨s2, dd2, sp2, dp2⟩) m (chainD (fireD rs)) chainL n M W → LSt w T (X2 w.heap.size ⟨s, dd, sp, dp⟩ ⟨s2, dd2, sp2, dp2⟩) m (chainD (fireD rs)) chainL n M (W.alloc o) := fun o h => h.alloc hX o
      have DR : ∀ {n : Nat} {M : Mnd} {W : World}, LSt w T (X2 w.heap.size ⟨s, dd, sp, dp⟩ ⟨s2, dd2, sp2, dp2⟩) m (chainD (fireD rs)) chainL n M W → LSt w T (X2 w.heap.size ⟨s, dd, sp, dp⟩ ⟨s2, dd2, sp2, dp2⟩) m (chainD (fireD rs)) chainL n M W.drew := fun h => h.drew hX
      have S6 : ∀ {n : Nat} {M : Mnd} {W : World} {k : Nat}, LSt w T (X2 w.heap.size ⟨s, dd, sp, dp⟩ ⟨s2, dd2, sp2, dp2⟩) m (chainD (fireD rs)) chainL n M W → ZB T k W → ∀ u0 u1 u2 u3 u4 u5 : Value, LSt w T (X2 w.heap.size ⟨s, dd, sp, dp⟩ ⟨s2, dd2, sp2, dp2⟩) m (chainD (fireD rs)) chainL n M ((((((W.setCell ⟨k, 0, none⟩ u0).setCell ⟨k, 1, none⟩ u1).setCell ⟨k, 2, none⟩ u2).setCell ⟨k, 3, none⟩ u3).setCell ⟨k, 4, none⟩ u4).setCell ⟨k, 5, none⟩ u5) := fun h z u0 u1 u2 u3 u4 u5 => LSt.set6 hX h z.2 (Nat.le_trans TL z.2) u0 u1 u2 u3 u4 u5
      have BE : ∀ {n : Nat} {M : Mnd} {W : World}, LSt w T (X2 w.heap.size ⟨s, dd, sp, dp⟩ ⟨s2, dd2, sp2, dp2⟩) m (chainD (fireD rs)) chainL n M W → Below w.heap.size w W := fun h => h.below
      have TW : ∀ {n : Nat} {M : Mnd} {W : World}, LSt w T (X2 w.heap.size ⟨s, dd, sp, dp⟩ ⟨s2, dd2, sp2, dp2⟩) m (chainD (fireD rs)) chainL n M W → T ≤ W.heap.size := fun h => h.tW
      have ZN : ∀ {W : World}, T ≤ W.heap.size → ZB T W.heap.size (W.alloc arZ) := fun h => zb_new h
      have ZBK : ∀ {k : Nat} {W W' : World}, ZB T k W → Below W.heap.size W W' → ZB T k W' := fun h hb => h.keep hb
      have ZBD : ∀ {k : Nat} {W : World}, ZB T k W → ZB T k W.drew := fun h => h.drew
      have ZBC : ∀ {k : Nat} {W W' : World}, ZB T k W → CK W W' → ZB T k W' := fun h hc => h.ck hc
      clear hX TL hp hqo hx 
      have PNE := fun w => packet_ne_self ⟨s, dd, sp, dp⟩ w
      have PEQ : ∀ w, (binOp .eql 24 (.agg #[.int .i64 s2, .int .i64 dd2, .int .i64 sp2, .int .i64 dp2]) (.agg #[.int .i64 dd, .int .i64 s, .int .i64 dp, .int .i64 sp])).run Try.prog w = .ok (.bool false) w := fun w => by
        have := packet_eq ⟨s2, dd2, sp2, dp2⟩ (flipP ⟨s, dd, sp, dp⟩) w
        rw [Bool.eq_false_iff.2 (fun e => hq.out ((pk_eqB _ _).1 e))] at this
        exact this
      clear hq
      generalize LSt w T (X2 w.heap.size ⟨s, dd, sp, dp⟩ ⟨s2, dd2, sp2, dp2⟩) m (chainD (fireD rs)) chainL = L at H1 H2 H3 H4 FGT KP AL DR S6 BE TW FS FQ FB S0
      generalize hM3 : ({ fl := delF (learnP noM (.flow 1 ⟨s, dd, sp, dp⟩)).fl (1, ⟨s, dd, sp, dp⟩), ow := noM.ow, bk := noM.bk } : Mnd) = M3 at FGT H4
      generalize hM1 : learnP noM (.flow 1 ⟨s, dd, sp, dp⟩) = M1 at H2 H3 FGT
      clear hM3 hM1
      have S0d := DR S0
      have S0a := DR (AL arZ S0)
      have Z0a := ZBD (ZN (TW S0))
      obtain ⟨c0, c1, c2, c3⟩ := FS S0
      go_cut [12] (fun vE wx => vE = .int .i64 7 ∧ L 1 noM wx)
      case first =>
        go_region_held3 (fun w' => w'.cell? ⟨w.heap.size, 0, none⟩ = some (.int .i64 s) ∧ w'.cell? ⟨w.heap.size, 1, none⟩ = some (.int .i64 dd) ∧ w'.cell? ⟨w.heap.size, 2, none⟩ = some (.int .i64 sp) ∧ w'.cell? ⟨w.heap.size, 3, none⟩ = some (.int .i64 dp)) (exact FS (by first | with_reducible exact Sh | with_reducible exact AL _ Sh | with_reducible exact S6 Sh Zh _ _ _ _ _ _ | with_reducible exact Sf | with_reducible exact AL _ Sf | with_reducible exact Sp | with_reducible exact AL _ Sp | with_reducible exact S0a | with_reducible exact S0d)) (first | (go_at_call 11; (with_reducible refine (PLC.out _ _ _).mono ?_); rintro e wp ⟨rfl, hbp⟩; have Sp := KP S0d hbp) | (go_at_call 11; (with_reducible refine (PLC.out _ _ _).mono ?_); rintro e wp ⟨rfl, hbp⟩; have Sp := KP S0a hbp; have Zp := ZBK Z0a hbp) | (go_at_call 13; (with_reducible refine (FLP.out _).mono ?_); rintro e wf ⟨rfl, hbf⟩; have Sf := KP Sp hbf; have Zf := ZBK Zp hbf) | (go_at_call 13; (with_reducible refine (FLP.out _).mono ?_); rintro e wf ⟨rfl, hbf⟩; have Sf := KP Sp hbf) | (go_at_call 13; (with_reducible refine (FLP.out _).mono ?_); rintro e wf ⟨rfl, hbf⟩; have Sf := KP (AL arZ Sp) hbf; have Zf := ZBK (ZN (TW Sp)) hbf) | (go_at_call 10; (with_reducible refine (H1.out _ Sf).mono ?_); rintro e wh ⟨rfl, Sh, Ch⟩; have Zh := ZBC Zf Ch; obtain ⟨⟨zz0, zz1, zz2, zz3, zz4, zz5⟩, ⟨zf0, zf1, zf2, zf3, zf4, zf5⟩⟩ := Zh.1.six) | (go_at_call 10; (with_reducible refine (H1.out _ Sf).mono ?_); rintro e wh ⟨rfl, Sh, Ch⟩; skip) | (go_at_call 10; (with_reducible refine (H1.out _ (AL arZ Sf)).mono ?_); rintro e wh ⟨rfl, Sh, Ch⟩; have Zh := ZBC (ZN (TW Sf)) Ch; obtain ⟨⟨zz0, zz1, zz2, zz3, zz4, zz5⟩, ⟨zf0, zf1, zf2, zf3, zf4, zf5⟩⟩ := Zh.1.six))
        all_goals
          go_wp2_with fail
          go_meet
          first
            | exact ⟨rfl, S6 Sh Zh _ _ _ _ _ _⟩
            | exact ⟨rfl, AL _ Sh⟩
      case rest =>
        clear H1 S0 S0d S0a Z0a c0 c1 c2 c3
        obtain ⟨rfl, S0⟩ := hcut
        go_upto_region 13 with fail
        have S0d := DR S0
        have S0a := DR (AL arZ S0)
        have Z0a := ZBD (ZN (TW S0))
        obtain ⟨c0, c1, c2, c3⟩ := FS S0
        go_cut [13, 8] (fun v13 v8 wx => ∃ g, v13 = .pointer (some ⟨g, 0, none⟩) ∧ v8 = .int .i64 0 ∧ Bk wx g #[.int .i64 2, .int .i64 0, .int .i64 s, .int .i64 dd, .int .i64 sp, .int .i64 dp] 47 ∧ L 2 M1 wx)
        case first =>
          go_region_held3 (fun w' => w'.cell? ⟨w.heap.size, 0, none⟩ = some (.int .i64 s) ∧ w'.cell? ⟨w.heap.size, 1, none⟩ = some (.int .i64 dd) ∧ w'.cell? ⟨w.heap.size, 2, none⟩ = some (.int .i64 sp) ∧ w'.cell? ⟨w.heap.size, 3, none⟩ = some (.int .i64 dp)) (exact FS (by first | with_reducible exact Sh | with_reducible exact AL _ Sh | with_reducible exact S6 Sh Zh _ _ _ _ _ _ | with_reducible exact Sf | with_reducible exact AL _ Sf | with_reducible exact Sp | with_reducible exact AL _ Sp | with_reducible exact S0a | with_reducible exact S0d)) (first | (go_at_call 11; (with_reducible refine (PLC.out _ _ _).mono ?_); rintro e wp ⟨rfl, hbp⟩; have Sp := KP S0d hbp) | (go_at_call 11; (with_reducible refine (PLC.out _ _ _).mono ?_); rintro e wp ⟨rfl, hbp⟩; have Sp := KP S0a hbp; have Zp := ZBK Z0a hbp) | (go_at_call 10; (with_reducible refine (H2.out _ Sp).mono ?_); rintro e wh ⟨rfl, Sh, Ch⟩; have Zh := ZBC Zp Ch; obtain ⟨⟨zz0, zz1, zz2, zz3, zz4, zz5⟩, ⟨zf0, zf1, zf2, zf3, zf4, zf5⟩⟩ := Zh.1.six) | (go_at_call 10; (with_reducible refine (H2.out _ Sp).mono ?_); rintro e wh ⟨rfl, Sh, Ch⟩; skip) | (go_at_call 10; (with_reducible refine (H2.out _ (AL arZ Sp)).mono ?_); rintro e wh ⟨rfl, Sh, Ch⟩; have Zh := ZBC (ZN (TW Sp)) Ch; obtain ⟨⟨zz0, zz1, zz2, zz3, zz4, zz5⟩, ⟨zf0, zf1, zf2, zf3, zf4, zf5⟩⟩ := Zh.1.six))
          all_goals
            go_wp2_with fail
            go_meet
            first
              | exact ⟨_, rfl, rfl, (by have := (((((Zh.1.setS (j := 0) (.int .i64 2)).setS (j := 1) (.int .i64 0)).setS (j := 2) (.int .i64 s)).setS (j := 3) (.int .i64 dd)).setS (j := 4) (.int .i64 sp)).setS (j := 5) (.int .i64 dp); simpa using this), S6 Sh Zh _ _ _ _ _ _⟩
              | exact ⟨_, rfl, rfl, bk_new _ _ _, AL _ Sh⟩
        case rest =>
          clear H2 S0 S0d S0a Z0a c0 c1 c2 c3
          obtain ⟨g, rfl, rfl, G5, S0⟩ := hcut
          obtain ⟨c0, c1, c2, c3⟩ := FS S0
          obtain ⟨⟨g0, g1, g2, g3, g4, g5⟩, _⟩ := G5.six
          go_wp2_with fail
          refine (LT.out _ (BE S0)).mono ?_
          rintro e wl ⟨rfl, hbl⟩
          have Sl := KP S0 hbl
          have Gl := G5.keep hbl
          clear hbl S0 G5 c0 c1 c2 c3 g0 g1 g2 g3 g4 g5
          obtain ⟨c0, c1, c2, c3⟩ := FS Sl
          obtain ⟨⟨g0, g1, g2, g3, g4, g5⟩, _⟩ := Gl.six
          have S0 := Sl
          clear Sl
          go_upto_region 16 with fail
          clear c0 c1 c2 c3 g0 g1 g2 g3 g4 g5 Gl
          have S0d := DR S0
          have S0a := DR (AL arZ S0)
          have Z0a := ZBD (ZN (TW S0))
          obtain ⟨c0, c1, c2, c3⟩ := FQ S0
          go_cut [15] (fun vE wx => vE = .int .i64 7 ∧ L 3 M1 wx)
          case first =>
            go_region_held3 (fun w' => w'.cell? ⟨w.heap.size + 1, 0, none⟩ = some (.int .i64 s2) ∧ w'.cell? ⟨w.heap.size + 1, 1, none⟩ = some (.int .i64 dd2) ∧ w'.cell? ⟨w.heap.size + 1, 2, none⟩ = some (.int .i64 sp2) ∧ w'.cell? ⟨w.heap.size + 1, 3, none⟩ = some (.int .i64 dp2)) (exact FQ (by first | with_reducible exact Sh | with_reducible exact AL _ Sh | with_reducible exact S6 Sh Zh _ _ _ _ _ _ | with_reducible exact Sf | with_reducible exact AL _ Sf | with_reducible exact Sp | with_reducible exact AL _ Sp | with_reducible exact S0a | with_reducible exact S0d)) (first | (go_at_call 11; (with_reducible refine (PLC.out _ _ _).mono ?_); rintro e wp ⟨rfl, hbp⟩; have Sp := KP S0d hbp) | (go_at_call 11; (with_reducible refine (PLC.out _ _ _).mono ?_); rintro e wp ⟨rfl, hbp⟩; have Sp := KP S0a hbp; have Zp := ZBK Z0a hbp) | (go_at_call 10; (with_reducible refine (H3.out _ Sp).mono ?_); rintro e wh ⟨rfl, Sh, Ch⟩; have Zh := ZBC Zp Ch; obtain ⟨⟨zz0, zz1, zz2, zz3, zz4, zz5⟩, ⟨zf0, zf1, zf2, zf3, zf4, zf5⟩⟩ := Zh.1.six) | (go_at_call 10; (with_reducible refine (H3.out _ Sp).mono ?_); rintro e wh ⟨rfl, Sh, Ch⟩; skip) | (go_at_call 10; (with_reducible refine (H3.out _ (AL arZ Sp)).mono ?_); rintro e wh ⟨rfl, Sh, Ch⟩; have Zh := ZBC (ZN (TW Sp)) Ch; obtain ⟨⟨zz0, zz1, zz2, zz3, zz4, zz5⟩, ⟨zf0, zf1, zf2, zf3, zf4, zf5⟩⟩ := Zh.1.six))
            all_goals
              go_wp2_with fail
              go_meet
              first
                | exact ⟨rfl, S6 Sh Zh _ _ _ _ _ _⟩
                | exact ⟨rfl, AL _ Sh⟩
          case rest =>
            clear H3 S0 S0d S0a Z0a c0 c1 c2 c3
            obtain ⟨rfl, S0⟩ := hcut
            obtain ⟨c0, c1, c2, c3⟩ := FS S0
            obtain ⟨d0, d1, d2, d3⟩ := FQ S0
            have S0d := DR S0
            go_wp2_with fail
            go_region_held3 (fun w' => w'.cell? ⟨w.heap.size, 0, none⟩ = some (.int .i64 s) ∧ w'.cell? ⟨w.heap.size, 1, none⟩ = some (.int .i64 dd) ∧ w'.cell? ⟨w.heap.size, 2, none⟩ = some (.int .i64 sp) ∧ w'.cell? ⟨w.heap.size, 3, none⟩ = some (.int .i64 dp) ∧ w'.cell? ⟨w.heap.size + 1, 0, none⟩ = some (.int .i64 s2) ∧ w'.cell? ⟨w.heap.size + 1, 1, none⟩ = some (.int .i64 dd2) ∧ w'.cell? ⟨w.heap.size + 1, 2, none⟩ = some (.int .i64 sp2) ∧ w'.cell? ⟨w.heap.size + 1, 3, none⟩ = some (.int .i64 dp2)) (exact FB (by first | with_reducible exact Sz | with_reducible exact S0d | with_reducible exact S0)) ((go_at_call 13; (with_reducible refine (FLP.out _).mono ?_); rintro e wz ⟨rfl, hbz⟩; have Sz := KP S0d hbz))
            have S9 := Sz
            clear Sz S0 S0d c0 c1 c2 c3 d0 d1 d2 d3 PEQ
            obtain ⟨c0, c1, c2, c3⟩ := FS S9
            go_wp2_with fail
            refine (FGT.out _ S9).mono ?_
            rintro e wg ⟨rfl, Sg, _⟩
            clear S9 FGT c0 c1 c2 c3
            obtain ⟨c0, c1, c2, c3⟩ := FS Sg
            have Sgd := DR Sg
            go_wp2_with fail
            go_region_held3 (fun w' => w'.cell? ⟨w.heap.size, 0, none⟩ = some (.int .i64 s) ∧ w'.cell? ⟨w.heap.size, 1, none⟩ = some (.int .i64 dd) ∧ w'.cell? ⟨w.heap.size, 2, none⟩ = some (.int .i64 sp) ∧ w'.cell? ⟨w.heap.size, 3, none⟩ = some (.int .i64 dp)) (exact FS (by first | with_reducible exact Sh | with_reducible exact Sf | with_reducible exact Sp | with_reducible exact Sgd)) (first | (go_at_call 11; (with_reducible refine (PLC.out _ _ _).mono ?_); rintro e wp ⟨rfl, hbp⟩; have Sp := KP Sgd hbp) | (go_at_call 13; (with_reducible refine (FLP.out _).mono ?_); rintro e wf ⟨rfl, hbf⟩; have Sf := KP Sp hbf) | (go_at_call 10; (with_reducible refine (H4.out _ Sf).mono ?_); rintro e wh ⟨rfl, Sh, _⟩))
            go_wp2_with fail
            go_ret
            exact ⟨rfl, BE Sh⟩
end Go.Proofs.Ytecdepgcklgfbaa
