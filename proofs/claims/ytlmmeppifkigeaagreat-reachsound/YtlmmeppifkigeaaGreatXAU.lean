/-
  XAU.
-/
import Derived.Test.YtlmmeppifkigeaaGreatXAT
import Derived.Test.YtlmmeppifkigeaaGreatXAD
import Derived.Test.YtlmmeppifkigeaaGreatXAA
set_option maxHeartbeats 8000000
set_option maxRecDepth 100000
namespace Go.Proofs.YtlmmeppifkigeaaGreat
open Go.RowKit Go.Maps
def exF (φ : Env -> Bool) (i j : Nat) : Nat -> Env -> Bool
 | 0 => φ
 | k + 1 => fun x => exF φ i j k (swE x (i + k) (j + k))
def anF (φ : Env -> Bool) (i : Nat) : Nat -> Env -> Bool
 | 0 => φ
 | k + 1 => fun x => anF φ i k (setE x (i + k) false) || anF φ i k (setE x (i + k) true)
section
variable {base q a M : Nat} {w0 w : World} {ns : List Nd} {er : Int}
theorem sw_o (S : Nat -> Bool) (h : Bn base q a M w0 w ns er) {f i j : Nat} {φ : Env -> Bool} (hf : Fn ns er f φ) (hi : i < 14) (hj : j < 14) (hd : er = 0 -> DepS S φ) :
  ∃ (g' : Nat) (χ : Env -> Bool), (er = 0 -> g' = 2 ^ cnS (wth S i j) 14 0 - 1 ∧ ∀ x, χ x = φ (swE x i j)) ∧ Calls Tryz.prog 181 #[.pointer (some ⟨a, 0, none⟩), .int .i64 (f : Int), .int .i64 (i : Int), .int .i64 (j : Int)] w (OPost base a M w ns g' χ) := by
 by_cases he : er = 0
 ·have e1 : ev ns f = φ := funext (hf.2 he)
  exact ⟨_, _, fun _ => ⟨rfl, fun x => by rw [e1]⟩, (swap_ok S h.ar hf.1 hi hj (e1 ▸ hd he)).mono fun _ _ hp => hp.o⟩
 ·exact ⟨_, _, fun e => absurd e he, (swap_ok (fun _ => true) h.ar hf.1 hi hj (DepS.all _)).mono fun _ _ hp => hp.o⟩
theorem ex_o (h : Bn base q a M w0 w ns er) {f i : Nat} {φ : Env -> Bool} (hf : Fn ns er f φ) (hi : i < 14) :
  ∃ χ : Env -> Bool, (er = 0 -> ∀ x, χ x = (φ (setE x i false) || φ (setE x i true))) ∧ Calls Tryz.prog 182 #[.pointer (some ⟨a, 0, none⟩), .int .i64 (f : Int), .int .i64 (i : Int)] w (OPost base a M w ns (2 ^ 14 - 1) χ) := by
 refine ⟨_, fun he x => ?_, (exists_ok h.ar hf.1 hi).mono fun _ _ hp => hp.o⟩
 show (ev ns f (setE x i false) || ev ns f (setE x i true)) = _
 rw [hf.2 he, hf.2 he]
theorem BOut.fit {g g' : Nat} {φ φ' : Env -> Bool} {e : Ending} {w' : World} (h : BOut base q a M w0 w ns er g φ e w') (hg : er = 0 -> g <= g' ∧ ∀ x, φ x = φ' x) : BOut base q a M w0 w ns er g' φ' e w' := by
 by_cases he : er = 0
 ·exact (h.more (hg he).1).of fun e x => (hg e).2 x
 ·exact h.bad he
theorem exchange_b (SS : Nat -> Nat -> Bool) (G : Nat) (h : Bn base q a M w0 w ns er) {f first second bits : Nat} {φ : Env -> Bool} (hf : Fn ns er f φ) (h1 : first + bits <= 14) (h2 : second + bits <= 14)
  (hd : er = 0 -> ∀ k, k < bits -> DepS (SS k) (exF φ first second k) ∧ 2 ^ cnS (wth (SS k) (first + k) (second + k)) 14 0 - 1 <= G) :
  Calls Tryz.prog 169 #[.pointer (some ⟨q, 0, none⟩), .int .i64 (f : Int), .int .i64 (first : Int), .int .i64 (second : Int), .int .i64 (bits : Int)] w (BOut base q a M w0 w ns er (bits * G) (exF φ first second bits)) := by
 have HD : Hq (er = 0 -> ∀ k, k < bits -> DepS (SS k) (exF φ first second k) ∧ 2 ^ cnS (wth (SS k) (first + k) (second + k)) 14 0 - 1 <= G) := ⟨hd⟩
 have HH := Hq.mk h
 have HF := Hq.mk hf
 clear hd h hf
 go_enter Tryz.func169, Tryz.ntmps169
 go_wp2_with fail
 go_loopw [1, 13] (fun v i wr => ∃ (k f' : Nat) (ns' : List Nd) (er' : Int), i = .int .i64 (k : Int) ∧ k <= bits ∧ v = .int .i64 (f' : Int) ∧ Hq ((Bn base q a M w0 wr ns' er' ∧ TF w wr) ∧ Ext ns ns' ∧ (er' = 0 -> er = 0) ∧ Fn ns' er' f' (exF φ first second k) ∧ Hid (er = 0 -> ns'.length <= ns.length + k * G ∧ (er' ≠ 0 -> 40000 <= ns.length + k * G)))) (fun _ i _ => bits - (intOf i).toNat)
 case atStart => exact ⟨0, f, ns, er, rfl, Nat.zero_le _, rfl, ⟨⟨HH.out, TF.refl _⟩, Ext.refl _, id, HF.out, fun e => ⟨by omega, fun h => absurd e h⟩⟩⟩
 case round =>
  obtain ⟨k, f', ns', er', rfl, hk, rfl, HS⟩ := hrel
  by_cases hlt : k < bits
  ·obtain ⟨⟨h', tf⟩, X, he, hf', hg⟩ := HS.out
   obtain ⟨g', χ, hx, SW⟩ := sw_o (SS k) h' hf' (i := first + k) (j := second + k) (by omega) (by omega) (fun e => ((HD.out (he e)) k hlt).1)
   have e1 : ((first + k : Nat) : Int) = (first : Int) + (k : Int) := by omega
   have e2 : ((second + k : Nat) : Int) = (second : Int) + (k : Int) := by omega
   rw [e1, e2] at SW
   have SWh := Hq.mk SW
   clear e1 e2
   have c0 := h'.blk.cell 0 _ rfl
   have FN : Hq (∀ w1 ns1 (v e2 : Int), Ar base a M 14 40000 w1 ns1 -> Kp (ca base a M 14 40000) wr w1 -> Ext ns' ns1 -> ns1.length <= ns'.length + g' -> Hid ((e2 = 0 ∧ ∃ f : Nat, v = (f : Int) ∧ f < ns1.length ∧ ∀ x, ev ns1 f x = χ x) ∨ (e2 = 6 ∧ v = 0 ∧ 40000 <= ns'.length + g')) -> Bz w1 q #[.pointer (some ⟨a, 0, none⟩), .int .i64 er'] 162 ∧ ∀ w2, w2 = (if er' = 0 then w1.setCell ⟨q, 1, none⟩ (.int .i64 e2) else w1) -> BOut base q a M w0 w ns er (k * G + G) (exF φ first second (k + 1)) (.returned (.int .i64 v)) w2) := ⟨fun w1 ns1 v e2 A1 k1 X1 l1 hv => ⟨h'.keep k1, fun w2 hw => by
    have B := (h'.fin A1 k1 X1 l1 hv hw).fit (g' := G) (φ' := exF φ first second (k + 1)) (fun e0 => by
     obtain ⟨q1, q2⟩ := hx e0
     refine ⟨by rw [q1]; exact ((HD.out (he e0)) k hlt).2, fun x => ?_⟩
     rw [q2]
     rfl)
    exact BOut.seq X he hg tf B⟩⟩
   have k2 : (k : Int) < (bits : Int) := by omega
   clear SW hx hf' hg h' X he tf
   go_wp2_with fail
   refine SWh.out.mono ?_
   rintro e w1 ⟨ns1, v, e2, rfl, A1, k1, X1, l1, hv⟩
   obtain ⟨Q1, F1⟩ := FN.out w1 ns1 v e2 A1 k1 X1 l1 hv
   have KP := Hq.mk (keep_b Q1 v e2)
   have F1h := Hq.mk F1
   clear F1 A1 k1 X1 l1 hv Q1 FN SWh c0
   go_wp2_with fail
   refine KP.out.mono ?_
   rintro e w2 ⟨rfl, hw⟩
   obtain ⟨f2, ns2, er2, hv2, b1, b2, b3, b4, b5⟩ := F1h.out w2 hw
   have hvv : v = (f2 : Int) := by simpa using hv2
   subst hvv
   have b5' : Hid (er = 0 -> ns2.length <= ns.length + (k + 1) * G ∧ (er2 ≠ 0 -> 40000 <= ns.length + (k + 1) * G)) := by
    rw [Nat.succ_mul]
    exact b5
   have HS2 := Hq.mk (And.intro b1 (And.intro b2 (And.intro b3 (And.intro b4 b5'))))
   clear hw F1h KP hv2 b1 b2 b3 b4 b5 b5' HS
   go_wp2_with fail
   go_roundw
   case rel => exact ⟨k + 1, f2, ns2, er2, by go_num, by omega, rfl, HS2⟩
   case measure => simp [intOf]; omega
  ·obtain rfl : k = bits := by omega
   have F : BOut base q a M w0 w ns er (k * G) (exF φ first second k) (.returned (.int .i64 (f' : Int))) wr := by
    obtain ⟨h', X, he, hf', hg⟩ := HS.out
    exact ⟨f', ns', er', rfl, h', X, he, hf', hg⟩
   clear HS HH HF HD
   go_wp2_with fail
   go_ret
   exact F
theorem anyOf_b (h : Bn base q a M w0 w ns er) {f first bits : Nat} {φ : Env -> Bool} (hf : Fn ns er f φ) (h1 : first + bits <= 14) :
  Calls Tryz.prog 170 #[.pointer (some ⟨q, 0, none⟩), .int .i64 (f : Int), .int .i64 (first : Int), .int .i64 (bits : Int)] w (BOut base q a M w0 w ns er (bits * 16383) (anF φ first bits)) := by
 have HH := Hq.mk h
 have HF := Hq.mk hf
 clear h hf
 go_enter Tryz.func170, Tryz.ntmps170
 go_wp2_with fail
 go_loopw [1, 11] (fun v i wr => ∃ (k f' : Nat) (ns' : List Nd) (er' : Int), i = .int .i64 (k : Int) ∧ k <= bits ∧ v = .int .i64 (f' : Int) ∧ Hq ((Bn base q a M w0 wr ns' er' ∧ TF w wr) ∧ Ext ns ns' ∧ (er' = 0 -> er = 0) ∧ Fn ns' er' f' (anF φ first k) ∧ Hid (er = 0 -> ns'.length <= ns.length + k * 16383 ∧ (er' ≠ 0 -> 40000 <= ns.length + k * 16383)))) (fun _ i _ => bits - (intOf i).toNat)
 case atStart => exact ⟨0, f, ns, er, rfl, Nat.zero_le _, rfl, ⟨⟨HH.out, TF.refl _⟩, Ext.refl _, id, HF.out, fun e => ⟨by omega, fun h => absurd e h⟩⟩⟩
 case round =>
  obtain ⟨k, f', ns', er', rfl, hk, rfl, HS⟩ := hrel
  by_cases hlt : k < bits
  ·obtain ⟨⟨h', tf⟩, X, he, hf', hg⟩ := HS.out
   obtain ⟨χ, hx, SW⟩ := ex_o h' hf' (i := first + k) (by omega)
   have e1 : ((first + k : Nat) : Int) = (first : Int) + (k : Int) := by omega
   rw [e1] at SW
   have SWh := Hq.mk SW
   clear e1
   have c0 := h'.blk.cell 0 _ rfl
   have FN : Hq (∀ w1 ns1 (v e2 : Int), Ar base a M 14 40000 w1 ns1 -> Kp (ca base a M 14 40000) wr w1 -> Ext ns' ns1 -> ns1.length <= ns'.length + (2 ^ 14 - 1) -> Hid ((e2 = 0 ∧ ∃ f : Nat, v = (f : Int) ∧ f < ns1.length ∧ ∀ x, ev ns1 f x = χ x) ∨ (e2 = 6 ∧ v = 0 ∧ 40000 <= ns'.length + (2 ^ 14 - 1))) -> Bz w1 q #[.pointer (some ⟨a, 0, none⟩), .int .i64 er'] 162 ∧ ∀ w2, w2 = (if er' = 0 then w1.setCell ⟨q, 1, none⟩ (.int .i64 e2) else w1) -> BOut base q a M w0 w ns er (k * 16383 + 16383) (anF φ first (k + 1)) (.returned (.int .i64 v)) w2) := ⟨fun w1 ns1 v e2 A1 k1 X1 l1 hv => ⟨h'.keep k1, fun w2 hw => by
    have B := (h'.fin A1 k1 X1 l1 hv hw).fit (g' := 16383) (φ' := anF φ first (k + 1)) (fun e0 => ⟨by omega, fun x => by rw [hx e0 x]; rfl⟩)
    exact BOut.seq X he hg tf B⟩⟩
   have k2 : (k : Int) < (bits : Int) := by omega
   clear SW hx hf' hg h' X he tf
   go_wp2_with fail
   refine SWh.out.mono ?_
   rintro e w1 ⟨ns1, v, e2, rfl, A1, k1, X1, l1, hv⟩
   obtain ⟨Q1, F1⟩ := FN.out w1 ns1 v e2 A1 k1 X1 l1 hv
   have KP := Hq.mk (keep_b Q1 v e2)
   have F1h := Hq.mk F1
   clear F1 A1 k1 X1 l1 hv Q1 FN SWh c0
   go_wp2_with fail
   refine KP.out.mono ?_
   rintro e w2 ⟨rfl, hw⟩
   obtain ⟨f2, ns2, er2, hv2, b1, b2, b3, b4, b5⟩ := F1h.out w2 hw
   have hvv : v = (f2 : Int) := by simpa using hv2
   subst hvv
   have b5' : Hid (er = 0 -> ns2.length <= ns.length + (k + 1) * 16383 ∧ (er2 ≠ 0 -> 40000 <= ns.length + (k + 1) * 16383)) := by
    rw [Nat.succ_mul]
    exact b5
   have HS2 := Hq.mk (And.intro b1 (And.intro b2 (And.intro b3 (And.intro b4 b5'))))
   clear hw F1h KP hv2 b1 b2 b3 b4 b5 b5' HS
   go_wp2_with fail
   go_roundw
   case rel => exact ⟨k + 1, f2, ns2, er2, by go_num, by omega, rfl, HS2⟩
   case measure => simp [intOf]; omega
  ·obtain rfl : k = bits := by omega
   have F : BOut base q a M w0 w ns er (k * 16383) (anF φ first k) (.returned (.int .i64 (f' : Int))) wr := by
    obtain ⟨h', X, he, hf', hg⟩ := HS.out
    exact ⟨f', ns', er', rfl, h', X, he, hf', hg⟩
   clear HS HH HF
   go_wp2_with fail
   go_ret
   exact F
theorem anySrc_b (h : Bn base q a M w0 w ns er) {f : Nat} {φ : Env -> Bool} (hf : Fn ns er f φ) :
  Calls Tryz.prog 145 #[.pointer (some ⟨q, 0, none⟩), .int .i64 (f : Int)] w (BOut base q a M w0 w ns er (4 * 16383) (anF φ 0 4)) := by
 have A := Hq.mk (anyOf_b h hf (first := 0) (bits := 4) (by omega))
 clear h hf
 go_enter Tryz.func145, Tryz.ntmps145
 go_wp2_with fail
 refine A.out.mono ?_
 rintro e w1 B
 have B2 := B
 obtain ⟨f1, ns1, er1, rfl, _⟩ := B2
 clear A
 go_wp2_with fail
 go_ret
 exact B
theorem anyDst_b (h : Bn base q a M w0 w ns er) {f : Nat} {φ : Env -> Bool} (hf : Fn ns er f φ) :
  Calls Tryz.prog 148 #[.pointer (some ⟨q, 0, none⟩), .int .i64 (f : Int)] w (BOut base q a M w0 w ns er (4 * 16383) (anF φ 4 4)) := by
 have A := Hq.mk (anyOf_b h hf (first := 4) (bits := 4) (by omega))
 clear h hf
 go_enter Tryz.func148, Tryz.ntmps148
 go_wp2_with fail
 refine A.out.mono ?_
 rintro e w1 B
 have B2 := B
 obtain ⟨f1, ns1, er1, rfl, _⟩ := B2
 clear A
 go_wp2_with fail
 go_ret
 exact B
theorem anySport_b (h : Bn base q a M w0 w ns er) {f : Nat} {φ : Env -> Bool} (hf : Fn ns er f φ) :
  Calls Tryz.prog 146 #[.pointer (some ⟨q, 0, none⟩), .int .i64 (f : Int)] w (BOut base q a M w0 w ns er (3 * 16383) (anF φ 8 3)) := by
 have A := Hq.mk (anyOf_b h hf (first := 8) (bits := 3) (by omega))
 clear h hf
 go_enter Tryz.func146, Tryz.ntmps146
 go_wp2_with fail
 refine A.out.mono ?_
 rintro e w1 B
 have B2 := B
 obtain ⟨f1, ns1, er1, rfl, _⟩ := B2
 clear A
 go_wp2_with fail
 go_ret
 exact B
theorem anyDport_b (h : Bn base q a M w0 w ns er) {f : Nat} {φ : Env -> Bool} (hf : Fn ns er f φ) :
  Calls Tryz.prog 149 #[.pointer (some ⟨q, 0, none⟩), .int .i64 (f : Int)] w (BOut base q a M w0 w ns er (3 * 16383) (anF φ 11 3)) := by
 have A := Hq.mk (anyOf_b h hf (first := 11) (bits := 3) (by omega))
 clear h hf
 go_enter Tryz.func149, Tryz.ntmps149
 go_wp2_with fail
 refine A.out.mono ?_
 rintro e w1 B
 have B2 := B
 obtain ⟨f1, ns1, er1, rfl, _⟩ := B2
 clear A
 go_wp2_with fail
 go_ret
 exact B
def flF (φ : Env -> Bool) : Env -> Bool := exF (exF φ 0 4 4) 8 11 3
theorem flip_b (S1 S2 : Nat -> Nat -> Bool) (G1 G2 : Nat) (h : Bn base q a M w0 w ns er) {f : Nat} {φ : Env -> Bool} (hf : Fn ns er f φ)
  (hd : er = 0 -> (∀ k, k < 4 -> DepS (S1 k) (exF φ 0 4 k) ∧ 2 ^ cnS (wth (S1 k) (0 + k) (4 + k)) 14 0 - 1 <= G1) ∧ (∀ k, k < 3 -> DepS (S2 k) (exF (exF φ 0 4 4) 8 11 k) ∧ 2 ^ cnS (wth (S2 k) (8 + k) (11 + k)) 14 0 - 1 <= G2)) :
  Calls Tryz.prog 144 #[.pointer (some ⟨q, 0, none⟩), .int .i64 (f : Int)] w (BOut base q a M w0 w ns er (4 * G1 + 3 * G2) (flF φ)) := by
 have A := Hq.mk (exchange_b S1 G1 h hf (first := 0) (second := 4) (bits := 4) (by omega) (by omega) (fun e => (hd e).1))
 have HD := Hq.mk hd
 clear h hf hd
 go_enter Tryz.func144, Tryz.ntmps144
 go_wp2_with fail
 refine A.out.mono ?_
 rintro e w1 ⟨f1, ns1, er1, rfl, ⟨h1, tf1⟩, X1, he1, hf1, hg1⟩
 have A2 := Hq.mk (exchange_b S2 G2 h1 hf1 (first := 8) (second := 11) (bits := 3) (by omega) (by omega) (fun e => (HD.out (he1 e)).2))
 have SQ : Hq (∀ e w', BOut base q a M w0 w1 ns1 er1 (3 * G2) (exF (exF φ 0 4 4) 8 11 3) e w' -> BOut base q a M w0 w ns er (4 * G1 + 3 * G2) (flF φ) e w') := ⟨fun e w' B => BOut.seq X1 he1 hg1 tf1 B⟩
 clear A h1 tf1 X1 he1 hf1 hg1 HD
 go_wp2_with fail
 refine A2.out.mono ?_
 rintro e w2 B
 have B2 := SQ.out _ _ B
 obtain ⟨f2, ns2, er2, rfl, _⟩ := B
 clear A2 SQ
 go_wp2_with fail
 go_ret
 exact B2
theorem flip_any (h : Bn base q a M w0 w ns er) {f : Nat} {φ : Env -> Bool} (hf : Fn ns er f φ) :
  Calls Tryz.prog 144 #[.pointer (some ⟨q, 0, none⟩), .int .i64 (f : Int)] w (BOut base q a M w0 w ns er (7 * 16383) (flF φ)) := by
 have le : ∀ S i j, 2 ^ cnS (wth S i j) 14 0 - 1 <= 16383 := fun S i j => by
  have := Nat.pow_le_pow_right (n := 2) (by omega) (cnS_le (S := wth S i j) (vars := 14) 0)
  omega
 exact (flip_b (fun _ _ => true) (fun _ _ => true) 16383 16383 h hf (fun _ => ⟨fun k _ => ⟨DepS.all _, le _ _ _⟩, fun k _ => ⟨DepS.all _, le _ _ _⟩⟩)).mono fun _ _ B => B.more (by omega)
end
end Go.Proofs.YtlmmeppifkigeaaGreat
namespace Go.Proofs.YtlmmeppifkigeaaGreat
open Go.RowKit
theorem all_any (w : World) :
  Calls Tryz.prog 43 #[] w fun e w' => e = .returned (mt 65535 65535 255 255) ∧ Below w.heap.size w w' := by
 go_enter Tryz.func43, Tryz.ntmps43
 go_wp2_with fail
 exact bodyPost_ret (v := mt 65535 65535 255 255) (by simp [results, Tryz.results43, go_sem]) rfl ⟨rfl, by go_grown⟩
end Go.Proofs.YtlmmeppifkigeaaGreat
namespace Go.Proofs.YtlmmeppifkigeaaGreat
open Go.RowKit Go.Maps
def setL : List Int -> Nat -> Nat
 | [], z => z
 | x :: l, z => setL l (z ||| 2 ^ x.toNat)
theorem or_bitU (z n : Nat) (hz : z < 65536) (hn : n < 16) : Go.bits .or .u16 (z : Int) ((2 : Int) ^ n % 65536) = ((z ||| 2 ^ n : Nat) : Int) := by
 have p1 : 2 ^ n < 2 ^ 16 := Nat.pow_lt_pow_right (by omega) hn
 have e1 : ((2 : Int) ^ n % 65536) = ((2 ^ n : Nat) : Int) := by
  rw [show (2 : Int) ^ n = ((2 ^ n : Nat) : Int) by simp]
  generalize 2 ^ n = q at *
  omega
 rw [e1]
 generalize 2 ^ n = m at *
 have hle : z ||| m < 2 ^ 16 := Nat.or_lt_two_pow hz p1
 have hmm : (BitVec.ofInt 16 (z : Int) ||| BitVec.ofInt 16 (m : Int)).toNat = z ||| m := by
  rw [show BitVec.ofInt 16 (z : Int) = BitVec.ofNat 16 z by simp, show BitVec.ofInt 16 (m : Int) = BitVec.ofNat 16 m by simp, BitVec.toNat_or, BitVec.toNat_ofNat, BitVec.toNat_ofNat, Nat.mod_eq_of_lt (by omega), Nat.mod_eq_of_lt (by omega)]
 show IntKind.u16.wrap ((BitVec.ofInt 16 (z : Int) ||| BitVec.ofInt 16 (m : Int)).toNat : Int) = _
 rw [hmm]
 generalize z ||| m = r at *
 show ((r : Int) % 65536) = _
 omega
theorem or_ltU (z q : Nat) (hz : z < 65536) (hq : q < 16) : z ||| 2 ^ q < 65536 := Nat.or_lt_two_pow (n := 16) hz (Nat.pow_lt_pow_right (by omega) hq)
theorem setL_lt : ∀ (l : List Int) (z : Nat), (∀ x ∈ l, 0 <= x ∧ x < 16) -> z < 65536 -> setL l z < 65536
 | [], _, _, hz => hz
 | x :: l, z, h, hz => setL_lt l _ (fun y hy => h y (by simp [hy])) (or_ltU z _ hz (by have := h x (by simp); omega))
theorem setOf_any {base : Nat} (v : Value) (l : List Int) (w : World) (hv : SlAt base w 1 IsI v l) (hr : ∀ x ∈ l, 0 <= x ∧ x < 16) :
  Calls Tryz.prog 90 #[v] w fun e w' => e = .returned (.int .u16 (setL l 0 : Nat)) ∧ w' = w := by
 have HR : Hid (∀ x ∈ l, 0 <= x ∧ x < 16) := hr
 obtain ⟨A, cap, rfl, c0, c1, c2, c3⟩ := hv
 unfold maxLen at c2
 clear hr
 go_enter Tryz.func90, Tryz.ntmps90
 go_wp2_with fail
 go_loopw [3, 8] (fun z i wr => ∃ (k y : Nat), z = .int .u16 (y : Int) ∧ i = .int .i64 (k : Int) ∧ k <= l.length ∧ y < 65536 ∧ Hid (setL l 0 = setL (l.drop k) y) ∧ wr = w) (fun _ i _ => l.length - (intOf i).toNat)
 case atStart => exact ⟨0, 0, rfl, rfl, Nat.zero_le _, by omega, rfl, rfl⟩
 case round =>
  obtain ⟨k, y, rfl, rfl, hk, hy, HA, rfl⟩ := hrel
  by_cases hlt : k < l.length
  ·obtain ⟨x, hxk⟩ : ∃ x, l[k]? = some x := ⟨l[k], List.getElem?_eq_getElem hlt⟩
   obtain ⟨b, o, rfl, hbl, hr⟩ := c3 (by intro e; subst e; simp at hlt)
   obtain ⟨cs, e1, e2, e3⟩ := hr k x hxk
   have hx := HR.out x (List.mem_of_getElem? hxk)
   obtain ⟨q, rfl⟩ : ∃ q : Nat, x = (q : Int) := ⟨x.toNat, by omega⟩
   have hc : wr.cell? ⟨b, o + k, none⟩ = some (.int .i64 (q : Int)) := by
    have e4 : cs = [.int .i64 (q : Int)] := e2
    subst e4
    simpa using e3 0 _ rfl
   have hdrop : l.drop k = (q : Int) :: l.drop (k + 1) := by
    rw [List.drop_eq_getElem_cons hlt]
    congr 1
    rw [List.getElem?_eq_getElem hlt] at hxk
    exact Option.some.inj hxk
   have HV : Hid (setL l 0 = setL (l.drop (k + 1)) (y ||| 2 ^ q)) := by
    show _ = _
    rw [HA.out, hdrop, setL, Int.toNat_natCast]
   have k1 : (0 : Int) <= (q : Int) := by omega
   have k2 : (q : Int) < 16 := by omega
   have HM : Go.bits .or .u16 (y : Int) (IntKind.u16.wrap ((2 : Int) ^ q)) = ((y ||| 2 ^ q : Nat) : Int) := or_bitU y q hy (by omega)
   have HL := or_ltU y q hy (by omega)
   clear hr e1 e2 e3 c3 HA hdrop HR hxk
   go_wp2_with fail
   go_roundw
   case rel => exact ⟨k + 1, y ||| 2 ^ q, rfl, by go_num, by omega, HL, HV, trivial⟩
   case measure => simp [intOf]; omega
  ·have HV : Hid (setL l 0 = y) := by
    show _ = _
    rw [HA.out, List.drop_of_length_le (by omega), setL]
   clear HA HR c3
   go_wp2_with fail
   go_ret
   rw [HV.out]
   exact ⟨rfl, rfl⟩
theorem Bz.al {W : World} {k : Nat} {c : Array Value} {t : TypeId} (h : Bz W k c t) (o : Obj) : Bz (W.alloc o) k c t := (Below.heap_alloc W o k h.lt).trans h
theorem srcIn_any (v : Value) (l : List Int) (w : World) (hv : SlAt w.heap.size w 1 IsI v l) (hr : ∀ x ∈ l, 0 <= x ∧ x < 16) :
  Calls Tryz.prog 53 #[v] w fun e w' => e = .returned (mt (setL l 0) 65535 255 255) ∧ Below w.heap.size w w' := by
 have SO : Hid (∀ ww, Below w.heap.size w ww -> Calls Tryz.prog 90 #[v] ww fun e w' => e = .returned (.int .u16 (setL l 0 : Nat)) ∧ w' = ww) := fun ww hb => setOf_any v l ww (hv.below hb (fun _ _ _ h => h)) hr
 clear hv hr
 generalize setL l 0 = z at *
 go_enter Tryz.func53, Tryz.ntmps53
 go_wp2_with fail
 refine (all_any _).mono ?_
 rintro e w1 ⟨rfl, hb1⟩
 have Z0 : Bz (w.alloc (.cells #[.int .u16 0, .int .u16 0, .int .u8 0, .int .u8 0] 50)) w.heap.size _ _ := Bz.new w _ _ _ rfl
 have Z1 : Bz w1 w.heap.size _ _ := (hb1.block _ Z0.lt).trans Z0
 have D1 : Below w.heap.size w w1 := ((Below.refl _ w).alloc (Nat.le_refl _) _).trans (hb1.mono (Nat.le_of_lt Z0.lt))
 have lt1 := Z1.lt
 have z0 := Z1.cell 0 (.int .u16 0) rfl
 have z1 := Z1.cell 1 (.int .u16 0) rfl
 have z2 := Z1.cell 2 (.int .u8 0) rfl
 have z3 := Z1.cell 3 (.int .u8 0) rfl
 have f0 := Z1.free 0
 have f1 := Z1.free 1
 have f2 := Z1.free 2
 have f3 := Z1.free 3
 unfold mt at *
 have Z1h := Hq.mk Z1
 clear hb1 Z0 Z1
 go_wp2_with fail
 refine (SO.out _ (by go_grown)).mono ?_
 rintro e w2 ⟨rfl, rfl⟩
 clear SO
 go_wp2_with fail
 have Zf := ((((Z1h.out.set (j := 0) (.int .u16 (z : Int))).set (j := 1) (.int .u16 (65535 : Int))).set (j := 2) (.int .u8 255)).set (j := 3) (.int .u8 255)).al (.cells #[(.int .u16 (z : Int)), (.int .u16 (65535 : Int)), .int .u8 255, .int .u8 255] 50)
 have g0 := Zf.cell 0 (.int .u16 (z : Int)) rfl
 have g1 := Zf.cell 1 (.int .u16 (65535 : Int)) rfl
 have g2 := Zf.cell 2 (.int .u8 255) rfl
 have g3 := Zf.cell 3 (.int .u8 255) rfl
 exact bodyPost_ret (v := mt z 65535 255 255) (by simp [results, Tryz.results53, go_sem, g0, g1, g2, g3]) rfl ⟨rfl, by go_grown⟩
theorem dstIn_any (v : Value) (l : List Int) (w : World) (hv : SlAt w.heap.size w 1 IsI v l) (hr : ∀ x ∈ l, 0 <= x ∧ x < 16) :
  Calls Tryz.prog 147 #[v] w fun e w' => e = .returned (mt 65535 (setL l 0) 255 255) ∧ Below w.heap.size w w' := by
 have SO : Hid (∀ ww, Below w.heap.size w ww -> Calls Tryz.prog 90 #[v] ww fun e w' => e = .returned (.int .u16 (setL l 0 : Nat)) ∧ w' = ww) := fun ww hb => setOf_any v l ww (hv.below hb (fun _ _ _ h => h)) hr
 clear hv hr
 generalize setL l 0 = z at *
 go_enter Tryz.func147, Tryz.ntmps147
 go_wp2_with fail
 refine (all_any _).mono ?_
 rintro e w1 ⟨rfl, hb1⟩
 have Z0 : Bz (w.alloc (.cells #[.int .u16 0, .int .u16 0, .int .u8 0, .int .u8 0] 50)) w.heap.size _ _ := Bz.new w _ _ _ rfl
 have Z1 : Bz w1 w.heap.size _ _ := (hb1.block _ Z0.lt).trans Z0
 have D1 : Below w.heap.size w w1 := ((Below.refl _ w).alloc (Nat.le_refl _) _).trans (hb1.mono (Nat.le_of_lt Z0.lt))
 have lt1 := Z1.lt
 have z0 := Z1.cell 0 (.int .u16 0) rfl
 have z1 := Z1.cell 1 (.int .u16 0) rfl
 have z2 := Z1.cell 2 (.int .u8 0) rfl
 have z3 := Z1.cell 3 (.int .u8 0) rfl
 have f0 := Z1.free 0
 have f1 := Z1.free 1
 have f2 := Z1.free 2
 have f3 := Z1.free 3
 unfold mt at *
 have Z1h := Hq.mk Z1
 clear hb1 Z0 Z1
 go_wp2_with fail
 refine (SO.out _ (by go_grown)).mono ?_
 rintro e w2 ⟨rfl, rfl⟩
 clear SO
 go_wp2_with fail
 have Zf := ((((Z1h.out.set (j := 0) (.int .u16 (65535 : Int))).set (j := 1) (.int .u16 (z : Int))).set (j := 2) (.int .u8 255)).set (j := 3) (.int .u8 255)).al (.cells #[(.int .u16 (65535 : Int)), (.int .u16 (z : Int)), .int .u8 255, .int .u8 255] 50)
 have g0 := Zf.cell 0 (.int .u16 (65535 : Int)) rfl
 have g1 := Zf.cell 1 (.int .u16 (z : Int)) rfl
 have g2 := Zf.cell 2 (.int .u8 255) rfl
 have g3 := Zf.cell 3 (.int .u8 255) rfl
 exact bodyPost_ret (v := mt 65535 z 255 255) (by simp [results, Tryz.results147, go_sem, g0, g1, g2, g3]) rfl ⟨rfl, by go_grown⟩
abbrev f4C (f0 f1 f2 f3 : Nat) : Obj := .cells #[.int .i64 (f0 : Int), .int .i64 (f1 : Int), .int .i64 (f2 : Int), .int .i64 (f3 : Int)] 98
section
variable {base q a M : Nat} {w0 w : World} {ns : List Nd} {er : Int}
def RulB (base q a M : Nat) (w0 : World) (v : Value) (g : Nat) (χ : Env -> Bool) : Prop :=
 ∀ w ns er, Bn base q a M w0 w ns er -> Calls Tryz.prog 143 #[.pointer (some ⟨q, 0, none⟩), v] w (BOut base q a M w0 w ns er g χ)
def AndB (base q a M : Nat) (w0 : World) (φ ψ : Env -> Bool) (g : Nat) : Prop :=
 ∀ w ns er (i j : Nat), Bn base q a M w0 w ns er -> Fn ns er i φ -> Fn ns er j ψ -> Calls Tryz.prog 66 #[.pointer (some ⟨q, 0, none⟩), .int .i64 (i : Int), .int .i64 (j : Int)] w (BOut base q a M w0 w ns er g (fun x => φ x && ψ x))
def OrB (base q a M : Nat) (w0 : World) (φ ψ : Env -> Bool) (g : Nat) : Prop :=
 ∀ w ns er (i j : Nat), Bn base q a M w0 w ns er -> Fn ns er i φ -> Fn ns er j ψ -> Calls Tryz.prog 91 #[.pointer (some ⟨q, 0, none⟩), .int .i64 (i : Int), .int .i64 (j : Int)] w (BOut base q a M w0 w ns er g (fun x => φ x || ψ x))
def FlB (base q a M : Nat) (w0 : World) (φ : Env -> Bool) (g : Nat) : Prop :=
 ∀ w ns er (i : Nat), Bn base q a M w0 w ns er -> Fn ns er i φ -> Calls Tryz.prog 144 #[.pointer (some ⟨q, 0, none⟩), .int .i64 (i : Int)] w (BOut base q a M w0 w ns er g (flF φ))
theorem rulB_any {A : Option Addr} {n cap : Nat} {xs : List Rl} (hR : Rules base w0 (.slice A n cap) xs) (hlen : xs.length <= 8) : RulB base q a M w0 (.slice A n cap) 40000 (letsF xs) :=
 fun _ _ _ h => rules_b h A n cap xs ((hR.below h.bel).mono h.size) hlen
theorem andB_of (S : Nat -> Bool) {φ ψ : Env -> Bool} (h1 : DepS S φ) (h2 : DepS S ψ) : AndB base q a M w0 φ ψ (2 ^ cnS S 14 0 - 1) := fun _ _ _ _ _ h hf hg => and_b S h hf hg (fun _ => ⟨h1, h2⟩)
theorem orB_of (S : Nat -> Bool) {φ ψ : Env -> Bool} (h1 : DepS S φ) (h2 : DepS S ψ) : OrB base q a M w0 φ ψ (2 ^ cnS S 14 0 - 1) := fun _ _ _ _ _ h hf hg => or_b S h hf hg (fun _ => ⟨h1, h2⟩)
theorem flB_any {φ : Env -> Bool} : FlB base q a M w0 φ (7 * 16383) := fun _ _ _ _ h hf => flip_any h hf
theorem flB_of (S1 S2 : Nat -> Nat -> Bool) (G1 G2 : Nat) {φ : Env -> Bool} (hd : (∀ k, k < 4 -> DepS (S1 k) (exF φ 0 4 k) ∧ 2 ^ cnS (wth (S1 k) (0 + k) (4 + k)) 14 0 - 1 <= G1) ∧ (∀ k, k < 3 -> DepS (S2 k) (exF (exF φ 0 4 4) 8 11 k) ∧ 2 ^ cnS (wth (S2 k) (8 + k) (11 + k)) 14 0 - 1 <= G2)) : FlB base q a M w0 φ (4 * G1 + 3 * G2) :=
 fun _ _ _ _ h hf => flip_b S1 S2 G1 G2 h hf (fun _ => hd)
theorem tf_two (w : World) (o1 o2 : Obj) : TF w ((w.alloc o1).alloc o2) := (TF.below ((Below.refl _ w).alloc (Nat.le_refl _) o1)).trans (TF.below ((Below.refl _ _).alloc (Nat.le_refl _) o2))
theorem Bn.grow {w1 : World} (h : Bn base q a M w0 w ns er) (hb : Below w.heap.size w w1) : Bn base q a M w0 w1 ns er :=
 ⟨h.ar.same (hb.block _ h.ar.lta) (hb.block _ h.ar.ltM) (hb.block _ h.ar.row.choose_spec.2.2), (hb.block _ h.blk.lt).trans h.blk, h.lo, h.er6, h.bel.trans (hb.mono h.size)⟩
structure Stt (base q a M : Nat) (w0 T W : World) (ns : List Nd) (er : Int) (g : Nat) (w1 : World) (ns1 : List Nd) (er1 : Int) : Prop where
 bn : Bn base q a M w0 w1 ns1 er1
 tf : TF W w1
 tt : TF T w1
 ext : Ext ns ns1
 wf : Wf 14 ns
 ok : er1 = 0 -> er = 0
 fit : Hid (er = 0 -> ns1.length <= ns.length + g ∧ (er1 ≠ 0 -> 40000 <= ns.length + g))
theorem Stt.start {T : World} (h : Bn base q a M w0 w ns er) (t : TF T w) : Stt base q a M w0 T w ns er 0 w ns er := ⟨h, TF.refl _, t, Ext.refl _, h.ar.wf, id, fun e => ⟨by omega, fun h => absurd e h⟩⟩
variable {T W w1 : World} {ns1 : List Nd} {er1 : Int} {g : Nat}
def Nx (C : World -> Prop) (K : Nat -> World -> Prop) (e : Ending) (w : World) : Prop := ∃ f : Nat, e = .returned (.int .i64 (f : Int)) ∧ C w ∧ K f w
theorem Stt.call {F : FuncId} {args : Array Value} {g' : Nat} {φ : Env -> Bool} {C : World -> Prop} {K : Nat -> World -> Prop} (s : Stt base q a M w0 T W ns er g w1 ns1 er1) (hC : ∀ w', TF W w' -> C w') (c : Calls Tryz.prog F args w1 (BOut base q a M w0 w1 ns1 er1 g' φ))
  (k : ∀ f w2 ns2 er2, Stt base q a M w0 T W ns er (g + g') w2 ns2 er2 -> Fn ns2 er2 f φ -> (∀ {i : Nat} {ψ : Env -> Bool}, Fn ns1 er1 i ψ -> Fn ns2 er2 i ψ) -> K f w2) : Calls Tryz.prog F args w1 (Nx C K) := by
 refine c.mono fun e w2 B => ?_
 obtain ⟨f, ns2, er2, rfl, ⟨b1, tf⟩, X, ho, hf, hg⟩ := B
 refine ⟨f, rfl, hC _ (s.tf.trans tf), k f w2 ns2 er2 ⟨b1, s.tf.trans tf, s.tt.trans tf, s.ext.trans X, s.wf, fun e => s.ok (ho e), fun e0 => ?_⟩ hf fun hi => hi.step s.bn.ar.wf b1.ar.wf X ho⟩
 have a1 := s.fit.out e0
 have a2 := b1.ar.le
 by_cases e1 : er1 = 0
 ·have a3 := hg.out e1
  refine ⟨by omega, fun e2 => ?_⟩
  have := a3.2 e2
  omega
 ·have := a1.2 e1
  exact ⟨by omega, fun _ => by omega⟩
def Nv (C : World -> Prop) (v : Value) (K : World -> Prop) (e : Ending) (w : World) : Prop := e = .returned v ∧ C w ∧ K w
theorem Stt.grow {w2 : World} (s : Stt base q a M w0 T W ns er g w1 ns1 er1) (hb : Below w1.heap.size w1 w2) : Stt base q a M w0 T W ns er g w2 ns1 er1 :=
 ⟨s.bn.grow hb, s.tf.trans (TF.below hb), s.tt.trans (TF.below hb), s.ext, s.wf, s.ok, s.fit⟩
theorem Stt.quiet {F : FuncId} {args : Array Value} {v : Value} {C : World -> Prop} {K : World -> Prop} (s : Stt base q a M w0 T W ns er g w1 ns1 er1) (hC : ∀ w', TF W w' -> C w') (c : Calls Tryz.prog F args w1 fun e w' => e = .returned v ∧ Below w1.heap.size w1 w')
  (k : ∀ w2, Stt base q a M w0 T W ns er g w2 ns1 er1 -> K w2) : Calls Tryz.prog F args w1 (Nv C v K) := by
 refine c.mono fun e w2 B => ?_
 obtain ⟨rfl, hb⟩ := B
 have s2 := s.grow hb
 exact ⟨rfl, hC _ s2.tf, k w2 s2⟩
theorem Stt.fin {f : Nat} {φ : Env -> Bool} (s : Stt base q a M w0 T W ns er g w1 ns1 er1) (hf : Fn ns1 er1 f φ) : BOut base q a M w0 T ns er g φ (.returned (.int .i64 (f : Int))) w1 :=
 ⟨f, ns1, er1, rfl, ⟨s.bn, s.tt⟩, s.ext, s.ok, hf, s.fit⟩
theorem ask_b (h : Bn base q a M w0 w ns er) {nm : ByteArray} {kd ad pl : Int} {Ab A At : Option Addr} {nb cb n cap nt ct : Nat} {f0 f1 f2 f3 : Nat} {gR gA : Nat} {χ φ : Env -> Bool} (RB : RulB base q a M w0 (.slice A n cap) gR χ) (AB : AndB base q a M w0 φ χ gA) (hf : Fn ns er f0 φ) :
  Calls Tryz.prog 117 #[.pointer (some ⟨q, 0, none⟩), .agg #[.string nm, .int .i64 kd, .int .i64 ad, .int .u8 pl, .slice Ab nb cb, .slice A n cap, .slice At nt ct], .agg #[.int .i64 (f0 : Int), .int .i64 (f1 : Int), .int .i64 (f2 : Int), .int .i64 (f3 : Int)]] w (BOut base q a M w0 w ns er (0 + gR + gA) (fun x => φ x && χ x)) := by
 have h1 := ((h.alloc (.cells #[.string nm, .int .i64 kd, .int .i64 ad, .int .u8 pl, .slice Ab nb cb, .slice A n cap, .slice At nt ct] 62)).alloc (f4C f0 f1 f2 f3)).drew
 have Z1 : Bz ((w.alloc (.cells #[.string nm, .int .i64 kd, .int .i64 ad, .int .u8 pl, .slice Ab nb cb, .slice A n cap, .slice At nt ct] 62)).alloc (f4C f0 f1 f2 f3)).drew w.heap.size #[.string nm, .int .i64 kd, .int .i64 ad, .int .u8 pl, .slice Ab nb cb, .slice A n cap, .slice At nt ct] 62 := (Bz.new w _ _ _ rfl).al _
 have Z2 : Bz ((w.alloc (.cells #[.string nm, .int .i64 kd, .int .i64 ad, .int .u8 pl, .slice Ab nb cb, .slice A n cap, .slice At nt ct] 62)).alloc (f4C f0 f1 f2 f3)).drew (w.heap.size + 1) #[.int .i64 (f0 : Int), .int .i64 (f1 : Int), .int .i64 (f2 : Int), .int .i64 (f3 : Int)] 98 := Bz.new (w.alloc _) _ _ _ (by show _ = (w.heap.push _).size; rw [Array.size_push])
 have s0 := Stt.start h1 (T := w) (by exact (tf_two w _ _).trans (TF.below (Below.refl _ _).drew))
 have d5 := Z1.cell 5 (.slice A n cap) rfl
 have p0 := Z2.cell 0 (.int .i64 (f0 : Int)) rfl
 have CH : Hq (Calls Tryz.prog 143 #[.pointer (some ⟨q, 0, none⟩), .slice A n cap] ((w.alloc (.cells #[.string nm, .int .i64 kd, .int .i64 ad, .int .u8 pl, .slice Ab nb cb, .slice A n cap, .slice At nt ct] 62)).alloc (f4C f0 f1 f2 f3)).drew (Nx (fun w1 => w1.cell? ⟨w.heap.size, 5, none⟩ = some (.slice A n cap) ∧ w1.cell? ⟨w.heap.size + 1, 0, none⟩ = some (.int .i64 (f0 : Int))) fun fr w1 => Calls Tryz.prog 66 #[.pointer (some ⟨q, 0, none⟩), .int .i64 (f0 : Int), .int .i64 (fr : Int)] w1 (Nx (fun w1 => w1.cell? ⟨w.heap.size, 5, none⟩ = some (.slice A n cap) ∧ w1.cell? ⟨w.heap.size + 1, 0, none⟩ = some (.int .i64 (f0 : Int))) fun ff w2 => BOut base q a M w0 w ns er (0 + gR + gA) (fun x => φ x && χ x) (.returned (.int .i64 (ff : Int))) w2))) := ⟨by
  have hC : ∀ w1, TF ((w.alloc (.cells #[.string nm, .int .i64 kd, .int .i64 ad, .int .u8 pl, .slice Ab nb cb, .slice A n cap, .slice At nt ct] 62)).alloc (f4C f0 f1 f2 f3)).drew w1 -> (fun w1 => w1.cell? ⟨w.heap.size, 5, none⟩ = some (.slice A n cap) ∧ w1.cell? ⟨w.heap.size + 1, 0, none⟩ = some (.int .i64 (f0 : Int))) w1 := fun w1 tf => ⟨(tf _ _ _ Z1 (by decide)).cell 5 _ rfl, (tf _ _ _ Z2 (by decide)).cell 0 _ rfl⟩
  exact s0.call hC (RB _ _ _ s0.bn) fun fr w1 ns1 er1 s1 hr l1 => s1.call hC (AB _ _ _ _ _ s1.bn (l1 hf) hr) fun ff w2 ns2 er2 s2 ha _ => s2.fin ha⟩
 clear h h1 Z1 Z2 s0 RB AB hf
 go_enter Tryz.func117, Tryz.ntmps117
 go_wp2_with fail
 go_region_held3 (fun w' => w'.cell? ⟨w.heap.size, 5, none⟩ = some (.slice A n cap) ∧ w'.cell? ⟨w.heap.size + 1, 0, none⟩ = some (.int .i64 (f0 : Int))) (go_keep)
  ((first
    | (go_at_call 143; refine CH.out.mono ?_; rintro e w1 ⟨fr, rfl, ⟨y0, y1⟩, C2⟩; have CH2 := Hq.mk C2; clear C2)
    | (go_at_call 66; refine CH2.out.mono ?_; rintro e w2 ⟨ff, rfl, ⟨x0, x1⟩, FF⟩)))
 all_goals
  go_wp2_with fail
  go_ret
  exact FF
theorem answer_b (h : Bn base q a M w0 w ns er) {nm : ByteArray} {kd ad pl : Int} {Ab A At : Option Addr} {nb cb n cap nt ct : Nat} {f0 f1 f2 f3 : Nat} {gR gA gF gB : Nat} {χ φ ψ : Env -> Bool} (RB : RulB base q a M w0 (.slice A n cap) gR χ) (AB : AndB base q a M w0 φ χ gA) (FB : FlB base q a M w0 (fun x => φ x && χ x) gF) (BB : AndB base q a M w0 ψ (flF (fun x => φ x && χ x)) gB) (hf : Fn ns er f0 φ) (hg : Fn ns er f1 ψ) :
  Calls Tryz.prog 118 #[.pointer (some ⟨q, 0, none⟩), .agg #[.string nm, .int .i64 kd, .int .i64 ad, .int .u8 pl, .slice Ab nb cb, .slice A n cap, .slice At nt ct], .agg #[.int .i64 (f0 : Int), .int .i64 (f1 : Int), .int .i64 (f2 : Int), .int .i64 (f3 : Int)]] w (BOut base q a M w0 w ns er (0 + (0 + gR + gA) + gF + gB) (fun x => ψ x && flF (fun x => φ x && χ x) x)) := by
 have h1 := ((h.alloc (.cells #[.string nm, .int .i64 kd, .int .i64 ad, .int .u8 pl, .slice Ab nb cb, .slice A n cap, .slice At nt ct] 62)).alloc (f4C f0 f1 f2 f3)).drew
 have Z1 : Bz ((w.alloc (.cells #[.string nm, .int .i64 kd, .int .i64 ad, .int .u8 pl, .slice Ab nb cb, .slice A n cap, .slice At nt ct] 62)).alloc (f4C f0 f1 f2 f3)).drew w.heap.size #[.string nm, .int .i64 kd, .int .i64 ad, .int .u8 pl, .slice Ab nb cb, .slice A n cap, .slice At nt ct] 62 := (Bz.new w _ _ _ rfl).al _
 have Z2 : Bz ((w.alloc (.cells #[.string nm, .int .i64 kd, .int .i64 ad, .int .u8 pl, .slice Ab nb cb, .slice A n cap, .slice At nt ct] 62)).alloc (f4C f0 f1 f2 f3)).drew (w.heap.size + 1) #[.int .i64 (f0 : Int), .int .i64 (f1 : Int), .int .i64 (f2 : Int), .int .i64 (f3 : Int)] 98 := Bz.new (w.alloc _) _ _ _ (by show _ = (w.heap.push _).size; rw [Array.size_push])
 have s0 := Stt.start h1 (T := w) (by exact (tf_two w _ _).trans (TF.below (Below.refl _ _).drew))
 have d0 := Z1.cell 0 (.string nm) rfl
 have d1 := Z1.cell 1 (.int .i64 kd) rfl
 have d2 := Z1.cell 2 (.int .i64 ad) rfl
 have d3 := Z1.cell 3 (.int .u8 pl) rfl
 have d4 := Z1.cell 4 (.slice Ab nb cb) rfl
 have d5 := Z1.cell 5 (.slice A n cap) rfl
 have d6 := Z1.cell 6 (.slice At nt ct) rfl
 have p0 := Z2.cell 0 (.int .i64 (f0 : Int)) rfl
 have p1 := Z2.cell 1 (.int .i64 (f1 : Int)) rfl
 have p2 := Z2.cell 2 (.int .i64 (f2 : Int)) rfl
 have p3 := Z2.cell 3 (.int .i64 (f3 : Int)) rfl
 have CH : Hq (Calls Tryz.prog 117 #[.pointer (some ⟨q, 0, none⟩), .agg #[.string nm, .int .i64 kd, .int .i64 ad, .int .u8 pl, .slice Ab nb cb, .slice A n cap, .slice At nt ct], .agg #[.int .i64 (f0 : Int), .int .i64 (f1 : Int), .int .i64 (f2 : Int), .int .i64 (f3 : Int)]] ((w.alloc (.cells #[.string nm, .int .i64 kd, .int .i64 ad, .int .u8 pl, .slice Ab nb cb, .slice A n cap, .slice At nt ct] 62)).alloc (f4C f0 f1 f2 f3)).drew (Nx (fun w1 => w1.cell? ⟨w.heap.size, 0, none⟩ = some (.string nm) ∧ w1.cell? ⟨w.heap.size, 1, none⟩ = some (.int .i64 kd) ∧ w1.cell? ⟨w.heap.size, 2, none⟩ = some (.int .i64 ad) ∧ w1.cell? ⟨w.heap.size, 3, none⟩ = some (.int .u8 pl) ∧ w1.cell? ⟨w.heap.size, 4, none⟩ = some (.slice Ab nb cb) ∧ w1.cell? ⟨w.heap.size, 5, none⟩ = some (.slice A n cap) ∧ w1.cell? ⟨w.heap.size, 6, none⟩ = some (.slice At nt ct) ∧ w1.cell? ⟨w.heap.size + 1, 0, none⟩ = some (.int .i64 (f0 : Int)) ∧ w1.cell? ⟨w.heap.size + 1, 1, none⟩ = some (.int .i64 (f1 : Int)) ∧ w1.cell? ⟨w.heap.size + 1, 2, none⟩ = some (.int .i64 (f2 : Int)) ∧ w1.cell? ⟨w.heap.size + 1, 3, none⟩ = some (.int .i64 (f3 : Int))) fun fr w1 => Calls Tryz.prog 144 #[.pointer (some ⟨q, 0, none⟩), .int .i64 (fr : Int)] w1 (Nx (fun w1 => w1.cell? ⟨w.heap.size, 0, none⟩ = some (.string nm) ∧ w1.cell? ⟨w.heap.size, 1, none⟩ = some (.int .i64 kd) ∧ w1.cell? ⟨w.heap.size, 2, none⟩ = some (.int .i64 ad) ∧ w1.cell? ⟨w.heap.size, 3, none⟩ = some (.int .u8 pl) ∧ w1.cell? ⟨w.heap.size, 4, none⟩ = some (.slice Ab nb cb) ∧ w1.cell? ⟨w.heap.size, 5, none⟩ = some (.slice A n cap) ∧ w1.cell? ⟨w.heap.size, 6, none⟩ = some (.slice At nt ct) ∧ w1.cell? ⟨w.heap.size + 1, 0, none⟩ = some (.int .i64 (f0 : Int)) ∧ w1.cell? ⟨w.heap.size + 1, 1, none⟩ = some (.int .i64 (f1 : Int)) ∧ w1.cell? ⟨w.heap.size + 1, 2, none⟩ = some (.int .i64 (f2 : Int)) ∧ w1.cell? ⟨w.heap.size + 1, 3, none⟩ = some (.int .i64 (f3 : Int))) fun fl w2 => Calls Tryz.prog 66 #[.pointer (some ⟨q, 0, none⟩), .int .i64 (f1 : Int), .int .i64 (fl : Int)] w2 (Nx (fun w1 => w1.cell? ⟨w.heap.size, 0, none⟩ = some (.string nm) ∧ w1.cell? ⟨w.heap.size, 1, none⟩ = some (.int .i64 kd) ∧ w1.cell? ⟨w.heap.size, 2, none⟩ = some (.int .i64 ad) ∧ w1.cell? ⟨w.heap.size, 3, none⟩ = some (.int .u8 pl) ∧ w1.cell? ⟨w.heap.size, 4, none⟩ = some (.slice Ab nb cb) ∧ w1.cell? ⟨w.heap.size, 5, none⟩ = some (.slice A n cap) ∧ w1.cell? ⟨w.heap.size, 6, none⟩ = some (.slice At nt ct) ∧ w1.cell? ⟨w.heap.size + 1, 0, none⟩ = some (.int .i64 (f0 : Int)) ∧ w1.cell? ⟨w.heap.size + 1, 1, none⟩ = some (.int .i64 (f1 : Int)) ∧ w1.cell? ⟨w.heap.size + 1, 2, none⟩ = some (.int .i64 (f2 : Int)) ∧ w1.cell? ⟨w.heap.size + 1, 3, none⟩ = some (.int .i64 (f3 : Int))) fun ff w3 => BOut base q a M w0 w ns er (0 + (0 + gR + gA) + gF + gB) (fun x => ψ x && flF (fun x => φ x && χ x) x) (.returned (.int .i64 (ff : Int))) w3)))) := ⟨by
  have hC : ∀ w1, TF ((w.alloc (.cells #[.string nm, .int .i64 kd, .int .i64 ad, .int .u8 pl, .slice Ab nb cb, .slice A n cap, .slice At nt ct] 62)).alloc (f4C f0 f1 f2 f3)).drew w1 -> (fun w1 => w1.cell? ⟨w.heap.size, 0, none⟩ = some (.string nm) ∧ w1.cell? ⟨w.heap.size, 1, none⟩ = some (.int .i64 kd) ∧ w1.cell? ⟨w.heap.size, 2, none⟩ = some (.int .i64 ad) ∧ w1.cell? ⟨w.heap.size, 3, none⟩ = some (.int .u8 pl) ∧ w1.cell? ⟨w.heap.size, 4, none⟩ = some (.slice Ab nb cb) ∧ w1.cell? ⟨w.heap.size, 5, none⟩ = some (.slice A n cap) ∧ w1.cell? ⟨w.heap.size, 6, none⟩ = some (.slice At nt ct) ∧ w1.cell? ⟨w.heap.size + 1, 0, none⟩ = some (.int .i64 (f0 : Int)) ∧ w1.cell? ⟨w.heap.size + 1, 1, none⟩ = some (.int .i64 (f1 : Int)) ∧ w1.cell? ⟨w.heap.size + 1, 2, none⟩ = some (.int .i64 (f2 : Int)) ∧ w1.cell? ⟨w.heap.size + 1, 3, none⟩ = some (.int .i64 (f3 : Int))) w1 := fun w1 tf => ⟨(tf _ _ _ Z1 (by decide)).cell 0 _ rfl, (tf _ _ _ Z1 (by decide)).cell 1 _ rfl, (tf _ _ _ Z1 (by decide)).cell 2 _ rfl, (tf _ _ _ Z1 (by decide)).cell 3 _ rfl, (tf _ _ _ Z1 (by decide)).cell 4 _ rfl, (tf _ _ _ Z1 (by decide)).cell 5 _ rfl, (tf _ _ _ Z1 (by decide)).cell 6 _ rfl, (tf _ _ _ Z2 (by decide)).cell 0 _ rfl, (tf _ _ _ Z2 (by decide)).cell 1 _ rfl, (tf _ _ _ Z2 (by decide)).cell 2 _ rfl, (tf _ _ _ Z2 (by decide)).cell 3 _ rfl⟩
  exact s0.call hC (ask_b s0.bn RB AB hf) fun fr w1 ns1 er1 s1 hr l1 => s1.call hC (FB _ _ _ _ s1.bn hr) fun fl w2 ns2 er2 s2 ha l2 => s2.call hC (BB _ _ _ _ _ s2.bn (l2 (l1 hg)) ha) fun ff w3 ns3 er3 s3 hb _ => s3.fin hb⟩
 clear h h1 Z1 Z2 s0 RB AB hf FB BB hg
 go_enter Tryz.func118, Tryz.ntmps118
 go_wp2_with fail
 go_region_held3 (fun w' => w'.cell? ⟨w.heap.size, 0, none⟩ = some (.string nm) ∧ w'.cell? ⟨w.heap.size, 1, none⟩ = some (.int .i64 kd) ∧ w'.cell? ⟨w.heap.size, 2, none⟩ = some (.int .i64 ad) ∧ w'.cell? ⟨w.heap.size, 3, none⟩ = some (.int .u8 pl) ∧ w'.cell? ⟨w.heap.size, 4, none⟩ = some (.slice Ab nb cb) ∧ w'.cell? ⟨w.heap.size, 5, none⟩ = some (.slice A n cap) ∧ w'.cell? ⟨w.heap.size, 6, none⟩ = some (.slice At nt ct) ∧ w'.cell? ⟨w.heap.size + 1, 0, none⟩ = some (.int .i64 (f0 : Int)) ∧ w'.cell? ⟨w.heap.size + 1, 1, none⟩ = some (.int .i64 (f1 : Int)) ∧ w'.cell? ⟨w.heap.size + 1, 2, none⟩ = some (.int .i64 (f2 : Int)) ∧ w'.cell? ⟨w.heap.size + 1, 3, none⟩ = some (.int .i64 (f3 : Int))) (go_keep)
  ((first
    | (go_at_call 117; refine CH.out.mono ?_; rintro e w1 ⟨fr, rfl, ⟨y0, y1, y2, y3, y4, y5, y6, y7, y8, y9, y10⟩, C2⟩; have CH2 := Hq.mk C2; clear C2)
    | (go_at_call 144; refine CH2.out.mono ?_; rintro e w2 ⟨fl, rfl, ⟨x0, x1, x2, x3, x4, x5, x6, x7, x8, x9, x10⟩, C3⟩; have CH3 := Hq.mk C3; clear C3)
    | (go_at_call 66; refine CH3.out.mono ?_; rintro e w3 ⟨ff, rfl, ⟨z0, z1, z2, z3, z4, z5, z6, z7, z8, z9, z10⟩, FF⟩)))
 all_goals
  go_wp2_with fail
  go_ret
  exact FF
end
section
variable {base q a M : Nat} {w0 w : World} {ns : List Nd} {er : Int}
theorem sl_one {W : World} {k : Nat} {x : Int} {t : TypeId} (h : Bz W k #[.int .i64 x] t) : SlAt W.heap.size W 1 IsI (.slice (some ⟨k, 0, none⟩) 1 1) [x] := by
 refine ⟨some ⟨k, 0, none⟩, 1, rfl, (fun e => by cases e), Nat.le_refl _, (by unfold maxLen; omega), fun _ => ⟨k, 0, rfl, h.lt, fun j y hj => ?_⟩⟩
 rcases j with _ | j
 ·obtain rfl : x = y := by simpa using hj
  refine ⟨[.int .i64 x], rfl, rfl, fun i u hi => ?_⟩
  rcases i with _ | i
  ·obtain rfl : Value.int .i64 x = u := by simpa using hi
   exact h.cell 0 _ rfl
  ·simp at hi
 ·simp at hj
theorem set_one {x : Int} (h0 : 0 <= x) (h16 : x < 16) : setL [x] 0 < 65536 := setL_lt _ _ (fun y hy => by simp at hy; omega) (by omega)
def AnB (F : FuncId) (base q a M : Nat) (w0 : World) (φ ψ : Env -> Bool) (g : Nat) : Prop :=
 ∀ w ns er (i : Nat), Bn base q a M w0 w ns er -> Fn ns er i φ -> Calls Tryz.prog F #[.pointer (some ⟨q, 0, none⟩), .int .i64 (i : Int)] w (BOut base q a M w0 w ns er g ψ)
theorem own_b (h : Bn base q a M w0 w ns er) {nm : ByteArray} {kd ad pl : Int} {Ab A At : Option Addr} {nb cb n cap nt ct : Nat} {f0 f1 f2 f3 : Nat} {gA : Nat} {φ : Env -> Bool} (h0 : 0 <= ad) (h16 : ad < 16) (AB : AndB base q a M w0 φ (phi 65535 (setL [ad] 0) 255 255) gA) (hf : Fn ns er f0 φ) :
  Calls Tryz.prog 150 #[.pointer (some ⟨q, 0, none⟩), .agg #[.string nm, .int .i64 kd, .int .i64 ad, .int .u8 pl, .slice Ab nb cb, .slice A n cap, .slice At nt ct], .agg #[.int .i64 (f0 : Int), .int .i64 (f1 : Int), .int .i64 (f2 : Int), .int .i64 (f3 : Int)]] w (BOut base q a M w0 w ns er (0 + 44 + gA) (fun x => φ x && (phi 65535 (setL [ad] 0) 255 255) x)) := by
 have h1 := ((h.alloc (.cells #[.string nm, .int .i64 kd, .int .i64 ad, .int .u8 pl, .slice Ab nb cb, .slice A n cap, .slice At nt ct] 62)).alloc (f4C f0 f1 f2 f3)).drew
 have Z1 : Bz ((w.alloc (.cells #[.string nm, .int .i64 kd, .int .i64 ad, .int .u8 pl, .slice Ab nb cb, .slice A n cap, .slice At nt ct] 62)).alloc (f4C f0 f1 f2 f3)).drew w.heap.size #[.string nm, .int .i64 kd, .int .i64 ad, .int .u8 pl, .slice Ab nb cb, .slice A n cap, .slice At nt ct] 62 := (Bz.new w _ _ _ rfl).al _
 have Z2 : Bz ((w.alloc (.cells #[.string nm, .int .i64 kd, .int .i64 ad, .int .u8 pl, .slice Ab nb cb, .slice A n cap, .slice At nt ct] 62)).alloc (f4C f0 f1 f2 f3)).drew (w.heap.size + 1) #[.int .i64 (f0 : Int), .int .i64 (f1 : Int), .int .i64 (f2 : Int), .int .i64 (f3 : Int)] 98 := Bz.new (w.alloc _) _ _ _ (by show _ = (w.heap.push _).size; rw [Array.size_push])
 have s0 := Stt.start h1 (T := w) (by exact (tf_two w _ _).trans (TF.below (Below.refl _ _).drew))
 have d2 := Z1.cell 2 (.int .i64 ad) rfl
 have p0 := Z2.cell 0 (.int .i64 (f0 : Int)) rfl
 have CH : ∃ v, Hq (Calls Tryz.prog 147 #[.slice (some ⟨w.heap.size + 1 + 1, 0, none⟩) 1 1] (((w.alloc (.cells #[.string nm, .int .i64 kd, .int .i64 ad, .int .u8 pl, .slice Ab nb cb, .slice A n cap, .slice At nt ct] 62)).alloc (f4C f0 f1 f2 f3)).drew.alloc (.cells #[.int .i64 ad] 3)) (Nv (fun w1 => w1.cell? ⟨w.heap.size, 2, none⟩ = some (.int .i64 ad) ∧ w1.cell? ⟨w.heap.size + 1, 0, none⟩ = some (.int .i64 (f0 : Int))) v fun w1 => Calls Tryz.prog 68 #[.pointer (some ⟨q, 0, none⟩), v] w1 (Nx (fun w1 => w1.cell? ⟨w.heap.size, 2, none⟩ = some (.int .i64 ad) ∧ w1.cell? ⟨w.heap.size + 1, 0, none⟩ = some (.int .i64 (f0 : Int))) fun fm w2 => Calls Tryz.prog 66 #[.pointer (some ⟨q, 0, none⟩), .int .i64 (f0 : Int), .int .i64 (fm : Int)] w2 (Nx (fun w1 => w1.cell? ⟨w.heap.size, 2, none⟩ = some (.int .i64 ad) ∧ w1.cell? ⟨w.heap.size + 1, 0, none⟩ = some (.int .i64 (f0 : Int))) fun ff w3 => BOut base q a M w0 w ns er (0 + 44 + gA) (fun x => φ x && (phi 65535 (setL [ad] 0) 255 255) x) (.returned (.int .i64 (ff : Int))) w3)))) := ⟨mt 65535 (setL [ad] 0) 255 255, by
  have hC : ∀ w1, TF ((w.alloc (.cells #[.string nm, .int .i64 kd, .int .i64 ad, .int .u8 pl, .slice Ab nb cb, .slice A n cap, .slice At nt ct] 62)).alloc (f4C f0 f1 f2 f3)).drew w1 -> (fun w1 => w1.cell? ⟨w.heap.size, 2, none⟩ = some (.int .i64 ad) ∧ w1.cell? ⟨w.heap.size + 1, 0, none⟩ = some (.int .i64 (f0 : Int))) w1 := fun w1 tf => ⟨(tf _ _ _ Z1 (by decide)).cell 2 _ rfl, (tf _ _ _ Z2 (by decide)).cell 0 _ rfl⟩
  have Z3 : Bz (((w.alloc (.cells #[.string nm, .int .i64 kd, .int .i64 ad, .int .u8 pl, .slice Ab nb cb, .slice A n cap, .slice At nt ct] 62)).alloc (f4C f0 f1 f2 f3)).drew.alloc (.cells #[.int .i64 ad] 3)) (w.heap.size + 1 + 1) #[.int .i64 ad] 3 := Bz.new _ _ _ _ (by show _ = ((w.heap.push _).push _).size; rw [Array.size_push, Array.size_push])
  have s1 := s0.grow ((Below.refl _ _).alloc (Nat.le_refl _) (.cells #[.int .i64 ad] 3))
  refine Hq.mk ?_
  exact s1.quiet hC (dstIn_any _ [ad] _ (sl_one Z3) (fun y hy => by simp at hy; omega)) fun w1 s2 => s2.call hC (match_b s2.bn 65535 (setL [ad] 0) 255 255 (by omega) (set_one h0 h16) (by omega) (by omega)) fun fm w2 ns2 er2 s3 hm l1 => s3.call hC (AB _ _ _ _ _ s3.bn (l1 hf) hm) fun ff w3 ns3 er3 s4 hb _ => s4.fin hb⟩
 obtain ⟨v, CH⟩ := CH
 clear h h1 Z1 Z2 s0 AB hf
 go_enter Tryz.func150, Tryz.ntmps150
 go_wp2_with fail
 go_region_held3 (fun w' => w'.cell? ⟨w.heap.size, 2, none⟩ = some (.int .i64 ad) ∧ w'.cell? ⟨w.heap.size + 1, 0, none⟩ = some (.int .i64 (f0 : Int))) (go_keep)
  ((first
    | (go_at_call 147; refine CH.out.mono ?_; rintro e w1 ⟨rfl, ⟨y0, y1⟩, C2⟩; have CH2 := Hq.mk C2; clear C2)
    | (go_at_call 68; refine CH2.out.mono ?_; rintro e w2 ⟨fm, rfl, ⟨x0, x1⟩, C3⟩; have CH3 := Hq.mk C3; clear C3)
    | (go_at_call 66; refine CH3.out.mono ?_; rintro e w3 ⟨ff, rfl, ⟨u0, u1⟩, FF⟩)))
 all_goals
  go_wp2_with fail
  go_ret
  exact FF
theorem hide_b (h : Bn base q a M w0 w ns er) {nm : ByteArray} {kd ad pl : Int} {Ab A At : Option Addr} {nb cb n cap nt ct : Nat} {f0 f1 f2 f3 : Nat} {pn g1 g2 gA : Nat} {φ φ1 φ2 : Env -> Bool} (h0 : 0 <= ad) (h16 : ad < 16) (hp : pl = (pn : Int)) (hpn : pn < 256) (N1 : AnB 146 base q a M w0 φ φ1 g1) (N2 : AnB 145 base q a M w0 φ1 φ2 g2) (AB : AndB base q a M w0 φ2 (phi (setL [ad] 0) 65535 pn 255) gA) (hf : Fn ns er f0 φ) :
  Calls Tryz.prog 119 #[.pointer (some ⟨q, 0, none⟩), .agg #[.string nm, .int .i64 kd, .int .i64 ad, .int .u8 pl, .slice Ab nb cb, .slice A n cap, .slice At nt ct], .agg #[.int .i64 (f0 : Int), .int .i64 (f1 : Int), .int .i64 (f2 : Int), .int .i64 (f3 : Int)]] w (BOut base q a M w0 w ns er (0 + g1 + g2 + 44 + gA) (fun x => φ2 x && (phi (setL [ad] 0) 65535 pn 255) x)) := by
 subst hp
 have h1 := ((h.alloc (.cells #[.string nm, .int .i64 kd, .int .i64 ad, .int .u8 (pn : Int), .slice Ab nb cb, .slice A n cap, .slice At nt ct] 62)).alloc (f4C f0 f1 f2 f3))
 have Z1 : Bz ((w.alloc (.cells #[.string nm, .int .i64 kd, .int .i64 ad, .int .u8 (pn : Int), .slice Ab nb cb, .slice A n cap, .slice At nt ct] 62)).alloc (f4C f0 f1 f2 f3)) w.heap.size #[.string nm, .int .i64 kd, .int .i64 ad, .int .u8 (pn : Int), .slice Ab nb cb, .slice A n cap, .slice At nt ct] 62 := (Bz.new w _ _ _ rfl).al _
 have Z2 : Bz ((w.alloc (.cells #[.string nm, .int .i64 kd, .int .i64 ad, .int .u8 (pn : Int), .slice Ab nb cb, .slice A n cap, .slice At nt ct] 62)).alloc (f4C f0 f1 f2 f3)) (w.heap.size + 1) #[.int .i64 (f0 : Int), .int .i64 (f1 : Int), .int .i64 (f2 : Int), .int .i64 (f3 : Int)] 98 := Bz.new (w.alloc _) _ _ _ (by show _ = (w.heap.push _).size; rw [Array.size_push])
 have s0 := Stt.start h1 (T := w) (by exact tf_two w _ _)
 have d2 := Z1.cell 2 (.int .i64 ad) rfl
 have d3 := Z1.cell 3 (.int .u8 (pn : Int)) rfl
 have p0 := Z2.cell 0 (.int .i64 (f0 : Int)) rfl
 have hz := set_one h0 h16
 have HS : Hid (Calls Tryz.prog 53 #[.slice (some ⟨w.heap.size + 1 + 1, 0, none⟩) 1 1] (((w.alloc (.cells #[.string nm, .int .i64 kd, .int .i64 ad, .int .u8 (pn : Int), .slice Ab nb cb, .slice A n cap, .slice At nt ct] 62)).alloc (f4C f0 f1 f2 f3)).alloc (.cells #[.int .i64 ad] 3)) fun e w' => e = .returned (mt (setL [ad] 0) 65535 255 255) ∧ Below (((w.alloc (.cells #[.string nm, .int .i64 kd, .int .i64 ad, .int .u8 (pn : Int), .slice Ab nb cb, .slice A n cap, .slice At nt ct] 62)).alloc (f4C f0 f1 f2 f3)).alloc (.cells #[.int .i64 ad] 3)).heap.size (((w.alloc (.cells #[.string nm, .int .i64 kd, .int .i64 ad, .int .u8 (pn : Int), .slice Ab nb cb, .slice A n cap, .slice At nt ct] 62)).alloc (f4C f0 f1 f2 f3)).alloc (.cells #[.int .i64 ad] 3)) w') := srcIn_any _ [ad] _ (sl_one (Bz.new _ _ _ _ (by show _ = ((w.heap.push _).push _).size; rw [Array.size_push, Array.size_push]))) (fun y hy => by simp at hy; omega)
 generalize setL [ad] 0 = z at *
 have CH : Hq (Calls Tryz.prog 53 #[.slice (some ⟨w.heap.size + 1 + 1, 0, none⟩) 1 1] (((w.alloc (.cells #[.string nm, .int .i64 kd, .int .i64 ad, .int .u8 (pn : Int), .slice Ab nb cb, .slice A n cap, .slice At nt ct] 62)).alloc (f4C f0 f1 f2 f3)).alloc (.cells #[.int .i64 ad] 3)) (Nv (fun w1 => w1.cell? ⟨w.heap.size, 3, none⟩ = some (.int .u8 (pn : Int)) ∧ w1.cell? ⟨w.heap.size + 1, 0, none⟩ = some (.int .i64 (f0 : Int))) (mt z 65535 255 255) fun w2 => w.heap.size + 1 < w2.heap.size ∧ Calls Tryz.prog 146 #[.pointer (some ⟨q, 0, none⟩), .int .i64 (f0 : Int)] ((w2.alloc (.cells #[.int .u16 (z : Int), .int .u16 65535, .int .u8 (pn : Int), .int .u8 255] 50)).drew) (Nx (fun w1 => w1.cell? ⟨w.heap.size + 1, 0, none⟩ = some (.int .i64 (f0 : Int)) ∧ w1.cell? ⟨w2.heap.size, 0, none⟩ = some (.int .u16 (z : Int)) ∧ w1.cell? ⟨w2.heap.size, 1, none⟩ = some (.int .u16 65535) ∧ w1.cell? ⟨w2.heap.size, 2, none⟩ = some (.int .u8 (pn : Int)) ∧ w1.cell? ⟨w2.heap.size, 3, none⟩ = some (.int .u8 255)) fun fa w3 => Calls Tryz.prog 145 #[.pointer (some ⟨q, 0, none⟩), .int .i64 (fa : Int)] w3 (Nx (fun w1 => w1.cell? ⟨w.heap.size + 1, 0, none⟩ = some (.int .i64 (f0 : Int)) ∧ w1.cell? ⟨w2.heap.size, 0, none⟩ = some (.int .u16 (z : Int)) ∧ w1.cell? ⟨w2.heap.size, 1, none⟩ = some (.int .u16 65535) ∧ w1.cell? ⟨w2.heap.size, 2, none⟩ = some (.int .u8 (pn : Int)) ∧ w1.cell? ⟨w2.heap.size, 3, none⟩ = some (.int .u8 255)) fun fb w4 => Calls Tryz.prog 68 #[.pointer (some ⟨q, 0, none⟩), .agg #[.int .u16 (z : Int), .int .u16 65535, .int .u8 (pn : Int), .int .u8 255]] w4 (Nx (fun w1 => w1.cell? ⟨w.heap.size + 1, 0, none⟩ = some (.int .i64 (f0 : Int)) ∧ w1.cell? ⟨w2.heap.size, 0, none⟩ = some (.int .u16 (z : Int)) ∧ w1.cell? ⟨w2.heap.size, 1, none⟩ = some (.int .u16 65535) ∧ w1.cell? ⟨w2.heap.size, 2, none⟩ = some (.int .u8 (pn : Int)) ∧ w1.cell? ⟨w2.heap.size, 3, none⟩ = some (.int .u8 255)) fun fm w5 => Calls Tryz.prog 66 #[.pointer (some ⟨q, 0, none⟩), .int .i64 (fb : Int), .int .i64 (fm : Int)] w5 (Nx (fun w1 => w1.cell? ⟨w.heap.size + 1, 0, none⟩ = some (.int .i64 (f0 : Int)) ∧ w1.cell? ⟨w2.heap.size, 0, none⟩ = some (.int .u16 (z : Int)) ∧ w1.cell? ⟨w2.heap.size, 1, none⟩ = some (.int .u16 65535) ∧ w1.cell? ⟨w2.heap.size, 2, none⟩ = some (.int .u8 (pn : Int)) ∧ w1.cell? ⟨w2.heap.size, 3, none⟩ = some (.int .u8 255)) fun ff w6 => BOut base q a M w0 w ns er (0 + g1 + g2 + 44 + gA) (fun x => φ2 x && (phi z 65535 pn 255) x) (.returned (.int .i64 (ff : Int))) w6)))))) := ⟨by
  have hC : ∀ w1, TF ((w.alloc (.cells #[.string nm, .int .i64 kd, .int .i64 ad, .int .u8 (pn : Int), .slice Ab nb cb, .slice A n cap, .slice At nt ct] 62)).alloc (f4C f0 f1 f2 f3)) w1 -> (fun w1 => w1.cell? ⟨w.heap.size, 3, none⟩ = some (.int .u8 (pn : Int)) ∧ w1.cell? ⟨w.heap.size + 1, 0, none⟩ = some (.int .i64 (f0 : Int))) w1 := fun w1 tf => ⟨(tf _ _ _ Z1 (by decide)).cell 3 _ rfl, (tf _ _ _ Z2 (by decide)).cell 0 _ rfl⟩
  have s1 := s0.grow ((Below.refl _ _).alloc (Nat.le_refl _) (.cells #[.int .i64 ad] 3))
  refine s1.quiet hC HS.out fun w2 s2 => ?_
  have b3 := (s2.bn.alloc (.cells #[.int .u16 (z : Int), .int .u16 65535, .int .u8 (pn : Int), .int .u8 255] 50)).drew
  have s3 := Stt.start b3 (T := w) (s2.tt.trans ((TF.below ((Below.refl _ w2).alloc (Nat.le_refl _) _)).trans (TF.below (Below.refl _ _).drew)))
  have Y2 := s2.tf _ _ _ Z2 (by decide)
  have Y3 : Bz ((w2.alloc (.cells #[.int .u16 (z : Int), .int .u16 65535, .int .u8 (pn : Int), .int .u8 255] 50)).drew) (w.heap.size + 1) _ _ := Y2.al _
  have Z3 : Bz ((w2.alloc (.cells #[.int .u16 (z : Int), .int .u16 65535, .int .u8 (pn : Int), .int .u8 255] 50)).drew) w2.heap.size #[.int .u16 (z : Int), .int .u16 65535, .int .u8 (pn : Int), .int .u8 255] 50 := Bz.new w2 _ _ _ rfl
  have hC3 : ∀ w1, TF ((w2.alloc (.cells #[.int .u16 (z : Int), .int .u16 65535, .int .u8 (pn : Int), .int .u8 255] 50)).drew) w1 -> (fun w1 => w1.cell? ⟨w.heap.size + 1, 0, none⟩ = some (.int .i64 (f0 : Int)) ∧ w1.cell? ⟨w2.heap.size, 0, none⟩ = some (.int .u16 (z : Int)) ∧ w1.cell? ⟨w2.heap.size, 1, none⟩ = some (.int .u16 65535) ∧ w1.cell? ⟨w2.heap.size, 2, none⟩ = some (.int .u8 (pn : Int)) ∧ w1.cell? ⟨w2.heap.size, 3, none⟩ = some (.int .u8 255)) w1 := fun w1 tf => ⟨(tf _ _ _ Y3 (by decide)).cell 0 _ rfl, (tf _ _ _ Z3 (by decide)).cell 0 _ rfl, (tf _ _ _ Z3 (by decide)).cell 1 _ rfl, (tf _ _ _ Z3 (by decide)).cell 2 _ rfl, (tf _ _ _ Z3 (by decide)).cell 3 _ rfl⟩
  exact ⟨Y2.lt, s3.call hC3 (N1 _ _ _ _ s3.bn hf) fun fa w3 _ _ s4 ha l1 => s4.call hC3 (N2 _ _ _ _ s4.bn ha) fun fb w4 _ _ s5 hb l2 => s5.call hC3 (match_b s5.bn z 65535 pn 255 hz (by omega) hpn (by omega)) fun fm w5 _ _ s6 hm l3 => s6.call hC3 (AB _ _ _ _ _ s6.bn (l3 hb) hm) fun ff w6 _ _ s7 hh _ => s7.fin hh⟩⟩
 unfold mt at CH
 clear h h1 Z1 Z2 s0 AB hf N1 N2 HS
 go_enter Tryz.func119, Tryz.ntmps119
 go_wp2_with fail
 refine CH.out.mono ?_
 rintro e w2 ⟨rfl, ⟨y3, y0⟩, lt2, C2⟩
 have CH2 := Hq.mk C2
 have lt1 : w.heap.size < w2.heap.size := by omega
 have ne1 : ¬ w.heap.size = w2.heap.size := by omega
 have ne2 : ¬ w.heap.size + 1 = w2.heap.size := by omega
 have t3 := (Below.cell ((Below.refl _ w2).alloc (Nat.le_refl _) (.cells #[.int .u16 (z : Int), .int .u16 65535, .int .u8 255, .int .u8 255] 50)) (p := ⟨w.heap.size, 3, none⟩) lt1).trans y3
 clear C2 CH
 go_wp2_with fail
 go_region_held3 ((fun w1 => w1.cell? ⟨w.heap.size + 1, 0, none⟩ = some (.int .i64 (f0 : Int)) ∧ w1.cell? ⟨w2.heap.size, 0, none⟩ = some (.int .u16 (z : Int)) ∧ w1.cell? ⟨w2.heap.size, 1, none⟩ = some (.int .u16 65535) ∧ w1.cell? ⟨w2.heap.size, 2, none⟩ = some (.int .u8 (pn : Int)) ∧ w1.cell? ⟨w2.heap.size, 3, none⟩ = some (.int .u8 255))) (go_keep)
  ((first
    | (go_at_call 146; refine CH2.out.mono ?_; rintro e w3 ⟨fa, rfl, ⟨a0, a1, a2, a3, a4⟩, C3⟩; have CH3 := Hq.mk C3; clear C3)
    | (go_at_call 145; refine CH3.out.mono ?_; rintro e w4 ⟨fb, rfl, ⟨b0, b1, b2, b3, b4⟩, C4⟩; have CH4 := Hq.mk C4; clear C4)
    | (go_at_call 68; refine CH4.out.mono ?_; rintro e w5 ⟨fm, rfl, ⟨c0, c1, c2, c3, c4⟩, C5⟩; have CH5 := Hq.mk C5; clear C5)
    | (go_at_call 66; refine CH5.out.mono ?_; rintro e w6 ⟨ff, rfl, ⟨e0, e1, e2, e3, e4⟩, FF⟩)))
 all_goals
  go_wp2_with fail
  go_ret
  exact FF
end
end Go.Proofs.YtlmmeppifkigeaaGreat
