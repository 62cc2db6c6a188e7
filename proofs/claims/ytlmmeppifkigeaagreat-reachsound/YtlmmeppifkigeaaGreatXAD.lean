/-
  XAD.
-/
import Derived.Test.YtlmmeppifkigeaaGreatLy
import Derived.Test.YtlmmeppifkigeaaGreatProg
import Derived.WalkKit
import Derived.WalkSpells
import Derived.WalkLawsBesides
import Derived.Handy
import Derived.BigQuiet
import Derived.Deep.QuietTactic
import Derived.Deep.RegionHeld3
import Derived.Deep.DeepCutAuto
import Derived.Laws.AppendOwn
import Derived.Test.YtlmmeppifkigeaaGreatXAA
set_option maxHeartbeats 8000000
set_option maxRecDepth 100000
namespace Go.Proofs.YtlmmeppifkigeaaGreat
open Go.RowKit
abbrev st (b n : Int) : Value := .agg #[.int .i64 b, .int .i64 n]
abbrev mt (a b c d : Nat) : Value := .agg #[.int .u16 (a : Int), .int .u16 (b : Int), .int .u8 (c : Int), .int .u8 (d : Int)]
abbrev pk (a b c d : Int) : Value := .agg #[.int .i64 a, .int .i64 b, .int .i64 c, .int .i64 d]
def hasB (b : Nat) (n : Int) : Bool := decide (0 <= n) && b.testBit n.toNat
theorem chain {W0 W w' : World} (hb : Below W.heap.size W w') (h : Below W0.heap.size W0 W) : Below W0.heap.size W0 w' := h.trans (hb.mono h.size)
theorem Below.alloc' {W0 w : World} (h : Below W0.heap.size W0 w) (o : Obj) : Below W0.heap.size W0 (w.alloc o) := h.alloc h.size o
def Four (w : World) (n : Nat) (a b c d : Value) : Prop :=
 n < w.heap.size ∧ w.cell? ⟨n, 0, none⟩ = some a ∧ w.cell? ⟨n, 1, none⟩ = some b ∧ w.cell? ⟨n, 2, none⟩ = some c ∧ w.cell? ⟨n, 3, none⟩ = some d
theorem keepFour {W w' : World} {n : Nat} {a b c d : Value} (hb : Below W.heap.size W w') (h : Four W n a b c d) : Four w' n a b c d := by
 obtain ⟨h0, h1, h2, h3, h4⟩ := h
 exact ⟨Nat.lt_of_lt_of_le h0 hb.size, (hb.cell (p := ⟨n, 0, none⟩) h0).trans h1, (hb.cell (p := ⟨n, 1, none⟩) h0).trans h2, (hb.cell (p := ⟨n, 2, none⟩) h0).trans h3, (hb.cell (p := ⟨n, 3, none⟩) h0).trans h4⟩
theorem Four.drew {w : World} {n : Nat} {a b c d : Value} (h : Four w n a b c d) : Four w.drew n a b c d := h
theorem four_new (w : World) (a b c d : Value) (t : TypeId) : Four (w.alloc (.cells #[a, b, c, d] t)) w.heap.size a b c d :=
 ⟨by simp, by simp [go_sem], by simp [go_sem], by simp [go_sem], by simp [go_sem]⟩
theorem allocFour {w : World} {n : Nat} {a b c d : Value} (h : Four w n a b c d) (o : Obj) : Four (w.alloc o) n a b c d := keepFour ((Below.refl _ _).alloc (Nat.le_refl _) o) h
theorem two_fours {w' : World} {n1 n2 : Nat} {a1 b1 c1 d1 a2 b2 c2 d2 : Value} (h1 : Four w' n1 a1 b1 c1 d1) (h2 : Four w' n2 a2 b2 c2 d2) :
  w'.cell? ⟨n1, 0, none⟩ = some a1 ∧ w'.cell? ⟨n1, 1, none⟩ = some b1 ∧ w'.cell? ⟨n1, 2, none⟩ = some c1 ∧ w'.cell? ⟨n1, 3, none⟩ = some d1 ∧
  w'.cell? ⟨n2, 0, none⟩ = some a2 ∧ w'.cell? ⟨n2, 1, none⟩ = some b2 ∧ w'.cell? ⟨n2, 2, none⟩ = some c2 ∧ w'.cell? ⟨n2, 3, none⟩ = some d2 :=
 ⟨h1.2.1, h1.2.2.1, h1.2.2.2.1, h1.2.2.2.2, h2.2.1, h2.2.2.1, h2.2.2.2.1, h2.2.2.2.2⟩
theorem addrs_any (b : Nat) (w : World) (h1 : b < 65536) :
  Calls Tryz.prog 89 #[.int .u16 (b : Int)] w fun e w' => e = .returned (st b 16) ∧ Below w.heap.size w w' := by
 go_enter Tryz.func89, Tryz.ntmps89
 go_wp2_with fail
 exact bodyPost_ret (v := st b 16) (by simp [results, Tryz.results89, go_sem]) rfl ⟨rfl, by go_grown⟩
theorem ports_any (b : Nat) (w : World) (h1 : b < 256) :
  Calls Tryz.prog 87 #[.int .u8 (b : Int)] w fun e w' => e = .returned (st b 8) ∧ Below w.heap.size w w' := by
 go_enter Tryz.func87, Tryz.ntmps87
 go_wp2_with fail
 exact bodyPost_ret (v := st b 8) (by simp [results, Tryz.results87, go_sem]) rfl ⟨rfl, by go_grown⟩
theorem shr_any (b n : Nat) (hb : b < 2 ^ 62) : Op.shift .shr .i64 (b : Int) .i64 (n : Int) = (pure (.int .i64 ((b >>> n : Nat) : Int)) : Sem Value) := by
 by_cases h : n <= 64
 ·rw [shift_shr _ _ _ _ (by omega) (by show (n : Int) <= 64; omega), Nat.shiftRight_eq_div_pow, Int.toNat_natCast]
  simp
 ·have hp : 2 ^ 64 <= 2 ^ n := Nat.pow_le_pow_right (by omega) (by omega)
  have e : b >>> n = 0 := by rw [Nat.shiftRight_eq_div_pow, Nat.div_eq_of_lt (by omega)]
  have hm : min n IntKind.i64.bits = 64 := by show min n 64 = 64; omega
  have hf : (b : Int).fdiv (2 ^ 64) = 0 := by
   rw [Int.fdiv_eq_ediv_of_nonneg _ (by decide), Int.ediv_eq_zero_of_lt (by omega) (by omega)]
  rw [e]
  simp only [Op.shift, Int.toNat_natCast, hm, hf]
  rw [if_neg (by omega)]
  rfl
theorem bits_one (q : Nat) (hq : q < 2 ^ 62) : (Go.bits .and .i64 (q : Int) 1 == 1) = (q % 2 == 1) := by
 have e1 : BitVec.ofInt 64 (q : Int) = BitVec.ofNat 64 q := by simp
 have hm : (BitVec.ofNat 64 q &&& BitVec.ofInt 64 1).toNat = q % 2 := by
  rw [show BitVec.ofInt 64 1 = BitVec.ofNat 64 1 by rfl, BitVec.toNat_and, BitVec.toNat_ofNat, BitVec.toNat_ofNat, Nat.mod_eq_of_lt (show q < 2 ^ 64 by omega)]
  exact Nat.and_one_is_mod q
 have e2 : Go.bits .and .i64 (q : Int) 1 = ((q % 2 : Nat) : Int) := by
  show IntKind.i64.wrap ((BitVec.ofInt 64 (q : Int) &&& BitVec.ofInt 64 1).toNat : Int) = _
  rw [e1, hm, IntWalk.i64_in _ (by omega)]
 rw [e2]
 have : q % 2 = 0 ∨ q % 2 = 1 := by omega
 rcases this with h | h <;> rw [h] <;> rfl
theorem has_any (b : Nat) (n z : Int) (w : World) (h1 : b < 65536) :
  Calls Tryz.prog 113 #[st b z, .int .i64 n] w fun e w' => e = .returned (.bool (hasB b n)) ∧ Below w.heap.size w w' := by
 by_cases hn : 0 <= n
 ·obtain ⟨k, rfl⟩ : ∃ k : Nat, n = k := ⟨n.toNat, by omega⟩
  have t : decide (0 <= (k : Int)) = true := by simp
  have hs := shr_any b k (by omega)
  have hle : b >>> k <= b := by rw [Nat.shiftRight_eq_div_pow]; exact Nat.div_le_self _ _
  have he : Hid ((Go.bits .and .i64 ((b >>> k : Nat) : Int) 1 == 1) = hasB b k) := by
   show _ = _
   rw [bits_one _ (by omega), hasB, t, Bool.true_and, Int.toNat_natCast, Nat.testBit, Nat.one_and_eq_mod_two]
   have : (b >>> k) % 2 = 0 ∨ (b >>> k) % 2 = 1 := by omega
   rcases this with h | h <;> rw [h] <;> rfl
  clear hn hle
  generalize b >>> k = q at *
  go_enter Tryz.func113, Tryz.ntmps113
  go_wp2_with fail
  go_ret
  refine ⟨?_, by go_grown⟩
  rw [<- he.out]
  simp
 ·have t : decide (0 <= n) = false := by simp; omega
  have e : hasB b n = false := by unfold hasB; rw [t, Bool.false_and]
  rw [e]
  go_enter Tryz.func113, Tryz.ntmps113
  go_wp2_with fail
  go_ret
  exact ⟨rfl, by go_grown⟩
theorem in_case (a b c d : Nat) (p q r s : Int) (w : World) (x0 x1 x2 x3 : Bool)
  (hA : Hid (∀ w, Calls Tryz.prog 89 #[.int .u16 (a : Int)] w fun e w' => e = .returned (st a 16) ∧ Below w.heap.size w w'))
  (hB : Hid (∀ w, Calls Tryz.prog 89 #[.int .u16 (b : Int)] w fun e w' => e = .returned (st b 16) ∧ Below w.heap.size w w'))
  (hC : Hid (∀ w, Calls Tryz.prog 87 #[.int .u8 (c : Int)] w fun e w' => e = .returned (st c 8) ∧ Below w.heap.size w w'))
  (hD : Hid (∀ w, Calls Tryz.prog 87 #[.int .u8 (d : Int)] w fun e w' => e = .returned (st d 8) ∧ Below w.heap.size w w'))
  (h0 : Hid (∀ w, Calls Tryz.prog 113 #[st a 16, .int .i64 p] w fun e w' => e = .returned (.bool x0) ∧ Below w.heap.size w w'))
  (h1 : Hid (∀ w, Calls Tryz.prog 113 #[st b 16, .int .i64 q] w fun e w' => e = .returned (.bool x1) ∧ Below w.heap.size w w'))
  (h2 : Hid (∀ w, Calls Tryz.prog 113 #[st c 8, .int .i64 r] w fun e w' => e = .returned (.bool x2) ∧ Below w.heap.size w w'))
  (h3 : Hid (∀ w, Calls Tryz.prog 113 #[st d 8, .int .i64 s] w fun e w' => e = .returned (.bool x3) ∧ Below w.heap.size w w')) :
  Calls Tryz.prog 172 #[mt a b c d, pk p q r s] w fun e w' => e = .returned (.bool (x0 && x1 && x2 && x3)) ∧ Below w.heap.size w w' := by
 have F1 := (allocFour (four_new w (.int .u16 (a : Int)) (.int .u16 (b : Int)) (.int .u8 (c : Int)) (.int .u8 (d : Int)) 50) (.cells #[.int .i64 p, .int .i64 q, .int .i64 r, .int .i64 s] 36)).drew
 have F2 := (four_new (w.alloc (.cells #[.int .u16 (a : Int), .int .u16 (b : Int), .int .u8 (c : Int), .int .u8 (d : Int)] 50)) (.int .i64 p) (.int .i64 q) (.int .i64 r) (.int .i64 s) 36).drew
 have D1 := (Below.alloc' (Below.alloc' (Below.refl w.heap.size w) (.cells #[.int .u16 (a : Int), .int .u16 (b : Int), .int .u8 (c : Int), .int .u8 (d : Int)] 50)) (.cells #[.int .i64 p, .int .i64 q, .int .i64 r, .int .i64 s] 36)).drew
 rw [show (w.alloc (.cells #[.int .u16 (a : Int), .int .u16 (b : Int), .int .u8 (c : Int), .int .u8 (d : Int)] 50)).heap.size = w.heap.size + 1 by simp] at F2
 cases x0
 ·go_enter Tryz.func172, Tryz.ntmps172
  go_wp2_with fail
  refine wp_region_held_drew (S := (fun w' => w'.cell? ⟨w.heap.size, 0, none⟩ = some (.int .u16 (a : Int)) ∧ w'.cell? ⟨w.heap.size, 1, none⟩ = some (.int .u16 (b : Int)) ∧ w'.cell? ⟨w.heap.size, 2, none⟩ = some (.int .u8 (c : Int)) ∧ w'.cell? ⟨w.heap.size, 3, none⟩ = some (.int .u8 (d : Int)) ∧ w'.cell? ⟨w.heap.size + 1, 0, none⟩ = some (.int .i64 p) ∧ w'.cell? ⟨w.heap.size + 1, 1, none⟩ = some (.int .i64 q) ∧ w'.cell? ⟨w.heap.size + 1, 2, none⟩ = some (.int .i64 r) ∧ w'.cell? ⟨w.heap.size + 1, 3, none⟩ = some (.int .i64 s))) (by kernel_rfl) (two_fours (by assumption) (by assumption)) (fun hHeld => ?_)
  refine tk 0 ?_; try simp only [ly]
  refine tk 1 ?_; try simp only [ly]
  refine tk 3 ?_; try simp only [ly]
  refine tk 4 ?_; try simp only [ly]
  refine rd 2 (fun K hK => ?_)
  go_simp
  refine (hA.out _).mono ?_; rintro e wz ⟨rfl, hbz⟩; have Dz := chain hbz (by assumption); have Pz := keepFour (n := w.heap.size) hbz (by assumption); have Qz := keepFour (n := w.heap.size + 1) hbz (by assumption); clear hbz
  try go_wp2_with fail
  clear hHeld
  refine hK.out _ _ (two_fours (by assumption) (by assumption)) (fun hHeld => ?_)
  clear hK K
  try simp only [ly]
  refine rd 5 (fun K hK => ?_)
  go_simp
  refine (h0.out _).mono ?_; rintro e wz ⟨rfl, hbz⟩; have Dz := chain hbz (by assumption); have Pz := keepFour (n := w.heap.size) hbz (by assumption); have Qz := keepFour (n := w.heap.size + 1) hbz (by assumption); clear hbz
  try go_wp2_with fail
  clear hHeld
  refine hK.out _ _ (two_fours (by assumption) (by assumption)) (fun hHeld => ?_)
  clear hK K
  try simp only [ly]
  refine tk 6 ?_; try simp only [ly]
  refine tk0 7 ?_; try simp only [ly]
  refine tk0 8 ?_; try simp only [ly]
  refine tk0 9 ?_; try simp only [ly]
  refine tk0 10 ?_; try simp only [ly]
  refine tk0 11 ?_; try simp only [ly]
  refine tk0 12 ?_; try simp only [ly]
  refine tk 13 ?_; try simp only [ly]
  refine tk 14 ?_; try simp only [ly]
  refine tk0 15 ?_; try simp only [ly]
  refine tk0 16 ?_; try simp only [ly]
  refine tk0 17 ?_; try simp only [ly]
  refine tk0 18 ?_; try simp only [ly]
  refine tk0 19 ?_; try simp only [ly]
  refine tk0 20 ?_; try simp only [ly]
  refine tk 21 ?_; try simp only [ly]
  refine tk 22 ?_; try simp only [ly]
  refine tk0 23 ?_; try simp only [ly]
  refine tk0 24 ?_; try simp only [ly]
  refine tk0 25 ?_; try simp only [ly]
  refine tk0 26 ?_; try simp only [ly]
  refine tk0 27 ?_; try simp only [ly]
  refine tk0 28 ?_; try simp only [ly]
  refine tk 29 ?_; try simp only [ly]
  refine tk 30 ?_; try simp only [ly]
  refine wpAnyH_done (by kernel_rfl) ?_ _
  go_wp2
  go_ret
  exact ⟨by simp, by assumption⟩
 ·cases x1
  ·go_enter Tryz.func172, Tryz.ntmps172
   go_wp2_with fail
   refine wp_region_held_drew (S := (fun w' => w'.cell? ⟨w.heap.size, 0, none⟩ = some (.int .u16 (a : Int)) ∧ w'.cell? ⟨w.heap.size, 1, none⟩ = some (.int .u16 (b : Int)) ∧ w'.cell? ⟨w.heap.size, 2, none⟩ = some (.int .u8 (c : Int)) ∧ w'.cell? ⟨w.heap.size, 3, none⟩ = some (.int .u8 (d : Int)) ∧ w'.cell? ⟨w.heap.size + 1, 0, none⟩ = some (.int .i64 p) ∧ w'.cell? ⟨w.heap.size + 1, 1, none⟩ = some (.int .i64 q) ∧ w'.cell? ⟨w.heap.size + 1, 2, none⟩ = some (.int .i64 r) ∧ w'.cell? ⟨w.heap.size + 1, 3, none⟩ = some (.int .i64 s))) (by kernel_rfl) (two_fours (by assumption) (by assumption)) (fun hHeld => ?_)
   refine tk 0 ?_; try simp only [ly]
   refine tk 1 ?_; try simp only [ly]
   refine tk 3 ?_; try simp only [ly]
   refine tk 4 ?_; try simp only [ly]
   refine rd 2 (fun K hK => ?_)
   go_simp
   refine (hA.out _).mono ?_; rintro e wz ⟨rfl, hbz⟩; have Dz := chain hbz (by assumption); have Pz := keepFour (n := w.heap.size) hbz (by assumption); have Qz := keepFour (n := w.heap.size + 1) hbz (by assumption); clear hbz
   try go_wp2_with fail
   clear hHeld
   refine hK.out _ _ (two_fours (by assumption) (by assumption)) (fun hHeld => ?_)
   clear hK K
   try simp only [ly]
   refine rd 5 (fun K hK => ?_)
   go_simp
   refine (h0.out _).mono ?_; rintro e wz ⟨rfl, hbz⟩; have Dz := chain hbz (by assumption); have Pz := keepFour (n := w.heap.size) hbz (by assumption); have Qz := keepFour (n := w.heap.size + 1) hbz (by assumption); clear hbz
   try go_wp2_with fail
   clear hHeld
   refine hK.out _ _ (two_fours (by assumption) (by assumption)) (fun hHeld => ?_)
   clear hK K
   try simp only [ly]
   refine tk 6 ?_; try simp only [ly]
   refine tk 7 ?_; try simp only [ly]
   refine tk 8 ?_; try simp only [ly]
   refine tk 10 ?_; try simp only [ly]
   refine tk 11 ?_; try simp only [ly]
   refine rd 9 (fun K hK => ?_)
   go_simp
   refine (hB.out _).mono ?_; rintro e wz ⟨rfl, hbz⟩; have Dz := chain hbz (by assumption); have Pz := keepFour (n := w.heap.size) hbz (by assumption); have Qz := keepFour (n := w.heap.size + 1) hbz (by assumption); clear hbz
   try go_wp2_with fail
   clear hHeld
   refine hK.out _ _ (two_fours (by assumption) (by assumption)) (fun hHeld => ?_)
   clear hK K
   try simp only [ly]
   refine rd 12 (fun K hK => ?_)
   go_simp
   refine (h1.out _).mono ?_; rintro e wz ⟨rfl, hbz⟩; have Dz := chain hbz (by assumption); have Pz := keepFour (n := w.heap.size) hbz (by assumption); have Qz := keepFour (n := w.heap.size + 1) hbz (by assumption); clear hbz
   try go_wp2_with fail
   clear hHeld
   refine hK.out _ _ (two_fours (by assumption) (by assumption)) (fun hHeld => ?_)
   clear hK K
   try simp only [ly]
   refine tk 13 ?_; try simp only [ly]
   refine tk 14 ?_; try simp only [ly]
   refine tk0 15 ?_; try simp only [ly]
   refine tk0 16 ?_; try simp only [ly]
   refine tk0 17 ?_; try simp only [ly]
   refine tk0 18 ?_; try simp only [ly]
   refine tk0 19 ?_; try simp only [ly]
   refine tk0 20 ?_; try simp only [ly]
   refine tk 21 ?_; try simp only [ly]
   refine tk 22 ?_; try simp only [ly]
   refine tk0 23 ?_; try simp only [ly]
   refine tk0 24 ?_; try simp only [ly]
   refine tk0 25 ?_; try simp only [ly]
   refine tk0 26 ?_; try simp only [ly]
   refine tk0 27 ?_; try simp only [ly]
   refine tk0 28 ?_; try simp only [ly]
   refine tk 29 ?_; try simp only [ly]
   refine tk 30 ?_; try simp only [ly]
   refine wpAnyH_done (by kernel_rfl) ?_ _
   go_wp2
   go_ret
   exact ⟨by simp, by assumption⟩
  ·cases x2
   ·go_enter Tryz.func172, Tryz.ntmps172
    go_wp2_with fail
    refine wp_region_held_drew (S := (fun w' => w'.cell? ⟨w.heap.size, 0, none⟩ = some (.int .u16 (a : Int)) ∧ w'.cell? ⟨w.heap.size, 1, none⟩ = some (.int .u16 (b : Int)) ∧ w'.cell? ⟨w.heap.size, 2, none⟩ = some (.int .u8 (c : Int)) ∧ w'.cell? ⟨w.heap.size, 3, none⟩ = some (.int .u8 (d : Int)) ∧ w'.cell? ⟨w.heap.size + 1, 0, none⟩ = some (.int .i64 p) ∧ w'.cell? ⟨w.heap.size + 1, 1, none⟩ = some (.int .i64 q) ∧ w'.cell? ⟨w.heap.size + 1, 2, none⟩ = some (.int .i64 r) ∧ w'.cell? ⟨w.heap.size + 1, 3, none⟩ = some (.int .i64 s))) (by kernel_rfl) (two_fours (by assumption) (by assumption)) (fun hHeld => ?_)
    refine tk 0 ?_; try simp only [ly]
    refine tk 1 ?_; try simp only [ly]
    refine tk 3 ?_; try simp only [ly]
    refine tk 4 ?_; try simp only [ly]
    refine rd 2 (fun K hK => ?_)
    go_simp
    refine (hA.out _).mono ?_; rintro e wz ⟨rfl, hbz⟩; have Dz := chain hbz (by assumption); have Pz := keepFour (n := w.heap.size) hbz (by assumption); have Qz := keepFour (n := w.heap.size + 1) hbz (by assumption); clear hbz
    try go_wp2_with fail
    clear hHeld
    refine hK.out _ _ (two_fours (by assumption) (by assumption)) (fun hHeld => ?_)
    clear hK K
    try simp only [ly]
    refine rd 5 (fun K hK => ?_)
    go_simp
    refine (h0.out _).mono ?_; rintro e wz ⟨rfl, hbz⟩; have Dz := chain hbz (by assumption); have Pz := keepFour (n := w.heap.size) hbz (by assumption); have Qz := keepFour (n := w.heap.size + 1) hbz (by assumption); clear hbz
    try go_wp2_with fail
    clear hHeld
    refine hK.out _ _ (two_fours (by assumption) (by assumption)) (fun hHeld => ?_)
    clear hK K
    try simp only [ly]
    refine tk 6 ?_; try simp only [ly]
    refine tk 7 ?_; try simp only [ly]
    refine tk 8 ?_; try simp only [ly]
    refine tk 10 ?_; try simp only [ly]
    refine tk 11 ?_; try simp only [ly]
    refine rd 9 (fun K hK => ?_)
    go_simp
    refine (hB.out _).mono ?_; rintro e wz ⟨rfl, hbz⟩; have Dz := chain hbz (by assumption); have Pz := keepFour (n := w.heap.size) hbz (by assumption); have Qz := keepFour (n := w.heap.size + 1) hbz (by assumption); clear hbz
    try go_wp2_with fail
    clear hHeld
    refine hK.out _ _ (two_fours (by assumption) (by assumption)) (fun hHeld => ?_)
    clear hK K
    try simp only [ly]
    refine rd 12 (fun K hK => ?_)
    go_simp
    refine (h1.out _).mono ?_; rintro e wz ⟨rfl, hbz⟩; have Dz := chain hbz (by assumption); have Pz := keepFour (n := w.heap.size) hbz (by assumption); have Qz := keepFour (n := w.heap.size + 1) hbz (by assumption); clear hbz
    try go_wp2_with fail
    clear hHeld
    refine hK.out _ _ (two_fours (by assumption) (by assumption)) (fun hHeld => ?_)
    clear hK K
    try simp only [ly]
    refine tk 13 ?_; try simp only [ly]
    refine tk 14 ?_; try simp only [ly]
    refine tk 15 ?_; try simp only [ly]
    refine tk 16 ?_; try simp only [ly]
    refine tk 18 ?_; try simp only [ly]
    refine tk 19 ?_; try simp only [ly]
    refine rd 17 (fun K hK => ?_)
    go_simp
    refine (hC.out _).mono ?_; rintro e wz ⟨rfl, hbz⟩; have Dz := chain hbz (by assumption); have Pz := keepFour (n := w.heap.size) hbz (by assumption); have Qz := keepFour (n := w.heap.size + 1) hbz (by assumption); clear hbz
    try go_wp2_with fail
    clear hHeld
    refine hK.out _ _ (two_fours (by assumption) (by assumption)) (fun hHeld => ?_)
    clear hK K
    try simp only [ly]
    refine rd 20 (fun K hK => ?_)
    go_simp
    refine (h2.out _).mono ?_; rintro e wz ⟨rfl, hbz⟩; have Dz := chain hbz (by assumption); have Pz := keepFour (n := w.heap.size) hbz (by assumption); have Qz := keepFour (n := w.heap.size + 1) hbz (by assumption); clear hbz
    try go_wp2_with fail
    clear hHeld
    refine hK.out _ _ (two_fours (by assumption) (by assumption)) (fun hHeld => ?_)
    clear hK K
    try simp only [ly]
    refine tk 21 ?_; try simp only [ly]
    refine tk 22 ?_; try simp only [ly]
    refine tk0 23 ?_; try simp only [ly]
    refine tk0 24 ?_; try simp only [ly]
    refine tk0 25 ?_; try simp only [ly]
    refine tk0 26 ?_; try simp only [ly]
    refine tk0 27 ?_; try simp only [ly]
    refine tk0 28 ?_; try simp only [ly]
    refine tk 29 ?_; try simp only [ly]
    refine tk 30 ?_; try simp only [ly]
    refine wpAnyH_done (by kernel_rfl) ?_ _
    go_wp2
    go_ret
    exact ⟨by simp, by assumption⟩
   ·go_enter Tryz.func172, Tryz.ntmps172
    go_wp2_with fail
    refine wp_region_held_drew (S := (fun w' => w'.cell? ⟨w.heap.size, 0, none⟩ = some (.int .u16 (a : Int)) ∧ w'.cell? ⟨w.heap.size, 1, none⟩ = some (.int .u16 (b : Int)) ∧ w'.cell? ⟨w.heap.size, 2, none⟩ = some (.int .u8 (c : Int)) ∧ w'.cell? ⟨w.heap.size, 3, none⟩ = some (.int .u8 (d : Int)) ∧ w'.cell? ⟨w.heap.size + 1, 0, none⟩ = some (.int .i64 p) ∧ w'.cell? ⟨w.heap.size + 1, 1, none⟩ = some (.int .i64 q) ∧ w'.cell? ⟨w.heap.size + 1, 2, none⟩ = some (.int .i64 r) ∧ w'.cell? ⟨w.heap.size + 1, 3, none⟩ = some (.int .i64 s))) (by kernel_rfl) (two_fours (by assumption) (by assumption)) (fun hHeld => ?_)
    refine tk 0 ?_; try simp only [ly]
    refine tk 1 ?_; try simp only [ly]
    refine tk 3 ?_; try simp only [ly]
    refine tk 4 ?_; try simp only [ly]
    refine rd 2 (fun K hK => ?_)
    go_simp
    refine (hA.out _).mono ?_; rintro e wz ⟨rfl, hbz⟩; have Dz := chain hbz (by assumption); have Pz := keepFour (n := w.heap.size) hbz (by assumption); have Qz := keepFour (n := w.heap.size + 1) hbz (by assumption); clear hbz
    try go_wp2_with fail
    clear hHeld
    refine hK.out _ _ (two_fours (by assumption) (by assumption)) (fun hHeld => ?_)
    clear hK K
    try simp only [ly]
    refine rd 5 (fun K hK => ?_)
    go_simp
    refine (h0.out _).mono ?_; rintro e wz ⟨rfl, hbz⟩; have Dz := chain hbz (by assumption); have Pz := keepFour (n := w.heap.size) hbz (by assumption); have Qz := keepFour (n := w.heap.size + 1) hbz (by assumption); clear hbz
    try go_wp2_with fail
    clear hHeld
    refine hK.out _ _ (two_fours (by assumption) (by assumption)) (fun hHeld => ?_)
    clear hK K
    try simp only [ly]
    refine tk 6 ?_; try simp only [ly]
    refine tk 7 ?_; try simp only [ly]
    refine tk 8 ?_; try simp only [ly]
    refine tk 10 ?_; try simp only [ly]
    refine tk 11 ?_; try simp only [ly]
    refine rd 9 (fun K hK => ?_)
    go_simp
    refine (hB.out _).mono ?_; rintro e wz ⟨rfl, hbz⟩; have Dz := chain hbz (by assumption); have Pz := keepFour (n := w.heap.size) hbz (by assumption); have Qz := keepFour (n := w.heap.size + 1) hbz (by assumption); clear hbz
    try go_wp2_with fail
    clear hHeld
    refine hK.out _ _ (two_fours (by assumption) (by assumption)) (fun hHeld => ?_)
    clear hK K
    try simp only [ly]
    refine rd 12 (fun K hK => ?_)
    go_simp
    refine (h1.out _).mono ?_; rintro e wz ⟨rfl, hbz⟩; have Dz := chain hbz (by assumption); have Pz := keepFour (n := w.heap.size) hbz (by assumption); have Qz := keepFour (n := w.heap.size + 1) hbz (by assumption); clear hbz
    try go_wp2_with fail
    clear hHeld
    refine hK.out _ _ (two_fours (by assumption) (by assumption)) (fun hHeld => ?_)
    clear hK K
    try simp only [ly]
    refine tk 13 ?_; try simp only [ly]
    refine tk 14 ?_; try simp only [ly]
    refine tk 15 ?_; try simp only [ly]
    refine tk 16 ?_; try simp only [ly]
    refine tk 18 ?_; try simp only [ly]
    refine tk 19 ?_; try simp only [ly]
    refine rd 17 (fun K hK => ?_)
    go_simp
    refine (hC.out _).mono ?_; rintro e wz ⟨rfl, hbz⟩; have Dz := chain hbz (by assumption); have Pz := keepFour (n := w.heap.size) hbz (by assumption); have Qz := keepFour (n := w.heap.size + 1) hbz (by assumption); clear hbz
    try go_wp2_with fail
    clear hHeld
    refine hK.out _ _ (two_fours (by assumption) (by assumption)) (fun hHeld => ?_)
    clear hK K
    try simp only [ly]
    refine rd 20 (fun K hK => ?_)
    go_simp
    refine (h2.out _).mono ?_; rintro e wz ⟨rfl, hbz⟩; have Dz := chain hbz (by assumption); have Pz := keepFour (n := w.heap.size) hbz (by assumption); have Qz := keepFour (n := w.heap.size + 1) hbz (by assumption); clear hbz
    try go_wp2_with fail
    clear hHeld
    refine hK.out _ _ (two_fours (by assumption) (by assumption)) (fun hHeld => ?_)
    clear hK K
    try simp only [ly]
    refine tk 21 ?_; try simp only [ly]
    refine tk 22 ?_; try simp only [ly]
    refine tk 23 ?_; try simp only [ly]
    refine tk 24 ?_; try simp only [ly]
    refine tk 26 ?_; try simp only [ly]
    refine tk 27 ?_; try simp only [ly]
    refine rd 25 (fun K hK => ?_)
    go_simp
    refine (hD.out _).mono ?_; rintro e wz ⟨rfl, hbz⟩; have Dz := chain hbz (by assumption); have Pz := keepFour (n := w.heap.size) hbz (by assumption); have Qz := keepFour (n := w.heap.size + 1) hbz (by assumption); clear hbz
    try go_wp2_with fail
    clear hHeld
    refine hK.out _ _ (two_fours (by assumption) (by assumption)) (fun hHeld => ?_)
    clear hK K
    try simp only [ly]
    refine rd 28 (fun K hK => ?_)
    go_simp
    refine (h3.out _).mono ?_; rintro e wz ⟨rfl, hbz⟩; have Dz := chain hbz (by assumption); have Pz := keepFour (n := w.heap.size) hbz (by assumption); have Qz := keepFour (n := w.heap.size + 1) hbz (by assumption); clear hbz
    try go_wp2_with fail
    clear hHeld
    refine hK.out _ _ (two_fours (by assumption) (by assumption)) (fun hHeld => ?_)
    clear hK K
    try simp only [ly]
    refine tk 29 ?_; try simp only [ly]
    refine tk 30 ?_; try simp only [ly]
    refine wpAnyH_done (by kernel_rfl) ?_ _
    go_wp2
    go_ret
    exact ⟨by simp, by assumption⟩
def inB (a b c d : Nat) (p q r s : Int) : Bool := hasB a p && hasB b q && hasB c r && hasB d s
theorem in_any (a b c d : Nat) (p q r s : Int) (w : World) (ha : a < 65536) (hb : b < 65536) (hc : c < 256) (hd : d < 256) :
  Calls Tryz.prog 172 #[mt a b c d, pk p q r s] w fun e w' => e = .returned (.bool (inB a b c d p q r s)) ∧ Below w.heap.size w w' :=
 in_case a b c d p q r s w _ _ _ _ (fun w => addrs_any a w ha) (fun w => addrs_any b w hb) (fun w => ports_any c w hc) (fun w => ports_any d w hd)
  (fun w => has_any a p 16 w ha) (fun w => has_any b q 16 w hb) (fun w => has_any c r 8 w (by omega)) (fun w => has_any d s 8 w (by omega))
structure Rl where
 ok : Bool
 a : Nat
 b : Nat
 c : Nat
 d : Nat
 ha : a < 65536
 hb : b < 65536
 hc : c < 256
 hd : d < 256
def inR (r : Rl) (p q s t : Int) : Bool := inB r.a r.b r.c r.d p q s t
def letsB : List Rl -> Int -> Int -> Int -> Int -> Bool
 | [], _, _, _, _ => false
 | r :: l, p, q, s, t => if inR r p q s t then r.ok else letsB l p q s t
def allR (ok : Bool) : Rl := ⟨ok, 65535, 65535, 255, 255, by omega, by omega, by omega, by omega⟩
abbrev rcells (r : Rl) : List Value := [.bool r.ok, .int .u16 (r.a : Int), .int .u16 (r.b : Int), .int .u8 (r.c : Int), .int .u8 (r.d : Int)]
abbrev rv (r : Rl) : Value := .agg #[.bool r.ok, .int .u16 (r.a : Int), .int .u16 (r.b : Int), .int .u8 (r.c : Int), .int .u8 (r.d : Int)]
def cellsR (xs : List Rl) : List Value := xs.flatMap fun r => rcells r
theorem cellsR_cons (r : Rl) (l : List Rl) : cellsR (r :: l) = rcells r ++ cellsR l := rfl
theorem cellsR_length : ∀ xs : List Rl, (cellsR xs).length = xs.length * 5
 | [] => rfl
 | r :: l => by
   have := cellsR_length l
   rw [cellsR_cons, List.length_append, this]
   simp
   omega
theorem cellsR_at : ∀ (xs : List Rl) (k : Nat) (r : Rl), xs[k]? = some r ->
  (cellsR xs)[k * 5]? = some (.bool r.ok) ∧ (cellsR xs)[k * 5 + 1]? = some (.int .u16 (r.a : Int)) ∧ (cellsR xs)[k * 5 + 2]? = some (.int .u16 (r.b : Int)) ∧ (cellsR xs)[k * 5 + 3]? = some (.int .u8 (r.c : Int)) ∧ (cellsR xs)[k * 5 + 4]? = some (.int .u8 (r.d : Int))
 | [], k, r, h => by simp at h
 | x :: l, 0, r, h => by
   obtain rfl : x = r := by simpa using h
   exact ⟨rfl, rfl, rfl, rfl, rfl⟩
 | x :: l, k + 1, r, h => by
   have ih := cellsR_at l k r (by simpa using h)
   have sh : ∀ j, (cellsR (x :: l))[(k + 1) * 5 + j]? = (cellsR l)[k * 5 + j]? := fun j => by
    rw [cellsR_cons, List.getElem?_append_right (by simp; omega)]
    congr 1
    simp
    omega
   have s0 := sh 0
   simp only [Nat.add_zero] at s0
   rw [s0, sh 1, sh 2, sh 3, sh 4]
   exact ih
def RAt (w : World) (b o : Nat) (xs : List Rl) : Prop := ∀ j u, (cellsR xs)[j]? = some u -> w.cell? ⟨b, o + j, none⟩ = some u
def Rules (base : Nat) (w : World) (v : Value) (xs : List Rl) : Prop :=
 ∃ A cap, v = .slice A xs.length cap ∧ (A = none -> cap = 0) ∧ xs.length <= cap ∧ cap <= maxLen ∧ (xs ≠ [] -> ∃ b o, A = some ⟨b, o, none⟩ ∧ b < base ∧ RAt w b o xs)
theorem RAt.at {w : World} {b o : Nat} {xs : List Rl} (h : RAt w b o xs) {k : Nat} {r : Rl} (hk : xs[k]? = some r) :
  w.cell? ⟨b, o + k * 5, none⟩ = some (.bool r.ok) ∧ w.cell? ⟨b, o + k * 5 + 1, none⟩ = some (.int .u16 (r.a : Int)) ∧ w.cell? ⟨b, o + k * 5 + 2, none⟩ = some (.int .u16 (r.b : Int)) ∧ w.cell? ⟨b, o + k * 5 + 3, none⟩ = some (.int .u8 (r.c : Int)) ∧ w.cell? ⟨b, o + k * 5 + 4, none⟩ = some (.int .u8 (r.d : Int)) := by
 obtain ⟨h0, h1, h2, h3, h4⟩ := cellsR_at xs k r hk
 exact ⟨h _ _ h0, h _ _ h1, h _ _ h2, h _ _ h3, h _ _ h4⟩
theorem RAt.below {base : Nat} {w w' : World} {b o : Nat} {xs : List Rl} (h : RAt w b o xs) (hb : Below base w w') (hl : b < base) : RAt w' b o xs :=
 fun j u hj => (hb.cell (p := ⟨b, _, none⟩) hl).trans (h j u hj)
theorem Rules.below {base : Nat} {w w' : World} {v : Value} {xs : List Rl} (h : Rules base w v xs) (hb : Below base w w') : Rules base w' v xs := by
 obtain ⟨A, cap, e, h0, h1, h2, h3⟩ := h
 refine ⟨A, cap, e, h0, h1, h2, fun hn => ?_⟩
 obtain ⟨b, o, ea, hl, hr⟩ := h3 hn
 exact ⟨b, o, ea, hl, hr.below hb hl⟩
theorem Rules.mono {base base' : Nat} {w : World} {v : Value} {xs : List Rl} (h : Rules base w v xs) (hb : base <= base') : Rules base' w v xs := by
 obtain ⟨A, cap, e, h0, h1, h2, h3⟩ := h
 refine ⟨A, cap, e, h0, h1, h2, fun hn => ?_⟩
 obtain ⟨b, o, ea, hl, hr⟩ := h3 hn
 exact ⟨b, o, ea, by omega, hr⟩
theorem inR_all {ok : Bool} {p q s t : Int} (hp : 0 <= p ∧ p < 16) (hq : 0 <= q ∧ q < 16) (hs : 0 <= s ∧ s < 8) (ht : 0 <= t ∧ t < 8) : inR (allR ok) p q s t = true := by
 have one : ∀ (n : Int) (m : Nat), 0 <= n -> n < m -> hasB (2 ^ m - 1) n = true := by
  intro n m h0 h1
  unfold hasB
  rw [Nat.testBit_two_pow_sub_one]
  simp
  omega
 unfold inR allR inB
 have h1 := one p 16 hp.1 hp.2
 have h2 := one q 16 hq.1 hq.2
 have h3 := one s 8 hs.1 hs.2
 have h4 := one t 8 ht.1 ht.2
 simp only [show (2 : Nat) ^ 16 - 1 = 65535 from rfl, show (2 : Nat) ^ 8 - 1 = 255 from rfl] at h1 h2 h3 h4
 simp [h1, h2, h3, h4]
theorem letsB_drop {xs : List Rl} {k : Nat} {r : Rl} (h : xs[k]? = some r) (p q s t : Int) : letsB (xs.drop k) p q s t = if inR r p q s t then r.ok else letsB (xs.drop (k + 1)) p q s t := by
 obtain ⟨hk, e⟩ := List.getElem?_eq_some_iff.1 h
 rw [List.drop_eq_getElem_cons hk, e]
 rfl
theorem lets_row (b o cap : Nat) (xs : List Rl) (p q s t : Int) (w : World) (hb : b < w.heap.size) (hn : xs.length <= cap) (hcap : cap <= maxLen) (hr : RAt w b o xs) :
  Calls Tryz.prog 152 #[.slice (some ⟨b, o, none⟩) xs.length cap, pk p q s t] w fun e w' => e = .returned (.bool (letsB xs p q s t)) ∧ Below w.heap.size w w' := by
 unfold maxLen at hcap
 have D0 := Below.alloc' (Below.refl w.heap.size w) (.cells #[.int .i64 p, .int .i64 q, .int .i64 s, .int .i64 t] 36)
 have F0 := four_new w (.int .i64 p) (.int .i64 q) (.int .i64 s) (.int .i64 t) 36
 go_enter Tryz.func152, Tryz.ntmps152
 go_wp2_with fail
 go_loopw [9] (fun i wr => ∃ k : Nat, i = .int .i64 (k : Int) ∧ k <= xs.length ∧ Below w.heap.size w wr ∧ Four wr w.heap.size (.int .i64 p) (.int .i64 q) (.int .i64 s) (.int .i64 t) ∧ letsB xs p q s t = letsB (xs.drop k) p q s t) (fun i _ => xs.length - (intOf i).toNat)
 case atStart => exact ⟨0, rfl, by omega, D0, F0, rfl⟩
 case round =>
  obtain ⟨k, rfl, hk, D1, F1, hl⟩ := hrel
  have Hl : Hid (letsB xs p q s t = letsB (xs.drop k) p q s t) := hl
  clear hl
  by_cases hlt : k < xs.length
  ·obtain ⟨r, hxk⟩ : ∃ r, xs[k]? = some r := ⟨_, List.getElem?_eq_getElem hlt⟩
   obtain ⟨c0, c1, c2, c3, c4⟩ := (hr.below D1 hb).at hxk
   have Hd : Hid (letsB (xs.drop k) p q s t = if inR r p q s t then r.ok else letsB (xs.drop (k + 1)) p q s t) := letsB_drop hxk p q s t
   have IN : Hid (∀ w, Calls Tryz.prog 172 #[mt r.a r.b r.c r.d, pk p q s t] w fun e w' => e = .returned (.bool (inR r p q s t)) ∧ Below w.heap.size w w') := fun w => in_any r.a r.b r.c r.d p q s t w r.ha r.hb r.hc r.hd
   have D2 := Below.alloc' D1 (.cells #[.bool r.ok, .int .u16 (r.a : Int), .int .u16 (r.b : Int), .int .u8 (r.c : Int), .int .u8 (r.d : Int)] 71)
   have F2 := allocFour F1 (.cells #[.bool r.ok, .int .u16 (r.a : Int), .int .u16 (r.b : Int), .int .u8 (r.c : Int), .int .u8 (r.d : Int)] 71)
   have B2 : (wr.alloc (.cells #[.bool r.ok, .int .u16 (r.a : Int), .int .u16 (r.b : Int), .int .u8 (r.c : Int), .int .u8 (r.d : Int)] 71)).cell? ⟨wr.heap.size, 0, none⟩ = some (.bool r.ok) := by simp [go_sem]
   obtain ⟨l0, g0, g1, g2, g3⟩ := id F1
   have lw := D1.size
   clear hr hxk
   generalize inR r p q s t = v at *
   generalize r.ok = ok at *
   generalize r.a = ra at *
   generalize r.b = rb at *
   generalize r.c = rc at *
   generalize r.d = rd at *
   go_wp2_with fail
   refine (IN.out _).mono ?_
   rintro e w3 ⟨rfl, hb3⟩
   have D3 := chain hb3 D2
   have F3 := keepFour hb3 F2
   have c5 : w3.cell? ⟨wr.heap.size, 0, none⟩ = some (.bool ok) := (hb3.cell (p := ⟨wr.heap.size, 0, none⟩) (by simp)).trans B2
   clear hb3 D2 F2 F1 D1 B2 IN c0 c1 c2 c3 c4 g0 g1 g2 g3
   cases v
   ·go_wp2_with fail
    go_roundw
    case rel => exact ⟨k + 1, by go_num, by omega, D3, F3, by rw [Hl.out, Hd.out]; simp⟩
    case measure => simp [intOf]; omega
   ·go_wp2_with fail
    go_ret
    exact ⟨by rw [Hl.out, Hd.out]; simp, D3⟩
  ·go_wp2_with fail
   go_ret
   exact ⟨by rw [Hl.out, List.drop_eq_nil_of_le (by omega)]; rfl, D1⟩
theorem lets_none (A : Option Addr) (cap : Nat) (p q s t : Int) (w : World) :
  Calls Tryz.prog 152 #[.slice A 0 cap, pk p q s t] w fun e w' => e = .returned (.bool false) ∧ Below w.heap.size w w' := by
 have D0 := Below.alloc' (Below.refl w.heap.size w) (.cells #[.int .i64 p, .int .i64 q, .int .i64 s, .int .i64 t] 36)
 go_enter Tryz.func152, Tryz.ntmps152
 go_wp2_with fail
 go_loopw [9] (fun i wr => i = .int .i64 0 ∧ Below w.heap.size w wr) (fun i _ => 0)
 case atStart => exact ⟨rfl, D0⟩
 case round =>
  obtain ⟨rfl, D1⟩ := hrel
  go_wp2_with fail
  go_ret
  exact ⟨rfl, D1⟩
theorem lets_any {v : Value} {xs : List Rl} (p q s t : Int) (w : World) (h : Rules w.heap.size w v xs) :
  Calls Tryz.prog 152 #[v, pk p q s t] w fun e w' => e = .returned (.bool (letsB xs p q s t)) ∧ Below w.heap.size w w' := by
 obtain ⟨A, cap, rfl, _, h1, h2, h3⟩ := h
 by_cases hx : xs = []
 ·subst hx
  exact lets_none A cap p q s t w
 ·obtain ⟨b, o, rfl, hb, hr⟩ := h3 hx
  exact lets_row b o cap xs p q s t w hb h1 h2 hr
theorem Three.cells {w : World} {n : Nat} {a b c : Value} (h : Three w n a b c) : w.cell? ⟨n, 0, none⟩ = some a ∧ w.cell? ⟨n, 1, none⟩ = some b ∧ w.cell? ⟨n, 2, none⟩ = some c := h.2
theorem Three.lt {w : World} {n : Nat} {a b c : Value} (h : Three w n a b c) : n < w.heap.size := h.1
abbrev rtw (v b p : Int) : Value := .agg #[.int .i64 v, .int .i64 b, .int .i64 p]
theorem intBits_andR (a b : Nat) (ha : a < 9223372036854775808) (hb : b < 9223372036854775808) : Go.bits .and .i64 (a : Int) (b : Int) = ((a &&& b : Nat) : Int) := by
 have e1 : BitVec.ofInt 64 (a : Int) = BitVec.ofNat 64 a := by simp
 have e2 : BitVec.ofInt 64 (b : Int) = BitVec.ofNat 64 b := by simp
 have hle : a &&& b <= a := Nat.and_le_left
 have hm : (BitVec.ofNat 64 a &&& BitVec.ofNat 64 b).toNat = a &&& b := by
  simp [BitVec.toNat_and, Nat.mod_eq_of_lt (show a < 18446744073709551616 by omega), Nat.mod_eq_of_lt (show b < 18446744073709551616 by omega)]
 show IntKind.i64.wrap ((BitVec.ofInt 64 (a : Int) &&& BitVec.ofInt 64 (b : Int)).toNat : Int) = _
 rw [e1, e2, hm, IntWalk.i64_in _ (by omega)]
theorem and_mask (v : Int) (k m : Nat) (h0 : 0 <= v) (h1 : v < 16) (hm : m + 1 = 2 ^ k) (hk : m < 16) : (Go.bits .and .i64 v (m : Int) == 0) = decide (v % ((m + 1 : Nat) : Int) = 0) := by
 obtain ⟨n, rfl⟩ : ∃ n : Nat, v = n := ⟨v.toNat, by omega⟩
 rw [intBits_andR n m (by omega) (by omega)]
 have e : m = 2 ^ k - 1 := by omega
 have e2 : n &&& m = n % (m + 1) := by rw [hm, e, Nat.and_two_pow_sub_one_eq_mod]
 rw [e2, Bool.eq_iff_iff]
 simp
theorem behind_0 (v p : Int) (w : World) : Calls Tryz.prog 137 #[rtw v 4 p] w fun e w' => e = .returned (.int .i64 0) ∧ Below w.heap.size w w' := by
 go_enter Tryz.func137, Tryz.ntmps137
 go_wp2_with fail
 go_ret
 exact ⟨rfl, by go_grown⟩
theorem takes_x (v b p d m n : Int) (w : World) (hm : (m = 0 ∧ n = 1) ∨ (m = 1 ∧ n = 2) ∨ (m = 2 ∧ n = 4) ∨ (m = 3 ∧ n = 8) ∨ (m = 4 ∧ n = 16)) (BE : Hid (∀ w, Calls Tryz.prog 137 #[rtw v b p] w fun e w' => e = .returned (.int .i64 m) ∧ Below w.heap.size w w')) (E : Hid (takesB ⟨v, b, p⟩ d = (d / n == v / n))) : Calls Tryz.prog 171 #[rtw v b p, .int .i64 d] w fun e w' => e = .returned (.bool (takesB ⟨v, b, p⟩ d)) ∧ Below w.heap.size w w' := by
 have D0 := (Below.al (Below.refl w.heap.size w) (.cells #[.int .i64 v, .int .i64 b, .int .i64 p] 130)).drew
 have T0 := (three_new w (.int .i64 v) (.int .i64 b) (.int .i64 p) 130).drew
 rcases hm with ⟨rfl, rfl⟩ | ⟨rfl, rfl⟩ | ⟨rfl, rfl⟩ | ⟨rfl, rfl⟩ | ⟨rfl, rfl⟩
 all_goals
  go_enter Tryz.func171, Tryz.ntmps171
  go_wp2_with fail
  go_region_held3 (fun w' => w'.cell? ⟨w.heap.size, 0, none⟩ = some (.int .i64 v) ∧ w'.cell? ⟨w.heap.size, 1, none⟩ = some (.int .i64 b) ∧ w'.cell? ⟨w.heap.size, 2, none⟩ = some (.int .i64 p)) (exact Three.cells (n := w.heap.size) (by assumption))
   (first | (go_at_call 137; refine (BE.out _).mono ?_; rintro e wz ⟨rfl, hbz⟩; have Dz := chn hbz (by assumption); have Pz := keepThree (n := w.heap.size) hbz (Three.lt (by assumption)) (by assumption); clear hbz))
  go_wp2_with fail
  go_ret
  exact ⟨by rw [E.out]; simp, by assumption⟩
theorem behind_1 (v p : Int) (w : World) : Calls Tryz.prog 137 #[rtw v 3 p] w fun e w' => e = .returned (.int .i64 1) ∧ Below w.heap.size w w' := by
 go_enter Tryz.func137, Tryz.ntmps137
 go_wp2_with fail
 go_ret
 exact ⟨rfl, by go_grown⟩
theorem behind_2 (v p : Int) (w : World) : Calls Tryz.prog 137 #[rtw v 2 p] w fun e w' => e = .returned (.int .i64 2) ∧ Below w.heap.size w w' := by
 go_enter Tryz.func137, Tryz.ntmps137
 go_wp2_with fail
 go_ret
 exact ⟨rfl, by go_grown⟩
theorem behind_3 (v p : Int) (w : World) : Calls Tryz.prog 137 #[rtw v 1 p] w fun e w' => e = .returned (.int .i64 3) ∧ Below w.heap.size w w' := by
 go_enter Tryz.func137, Tryz.ntmps137
 go_wp2_with fail
 go_ret
 exact ⟨rfl, by go_grown⟩
theorem behind_4 (v p : Int) (w : World) : Calls Tryz.prog 137 #[rtw v 0 p] w fun e w' => e = .returned (.int .i64 4) ∧ Below w.heap.size w w' := by
 go_enter Tryz.func137, Tryz.ntmps137
 go_wp2_with fail
 go_ret
 exact ⟨rfl, by go_grown⟩
theorem isr_a (v b p : Int) (w : World) (h : decide (0 <= b) = false) : Calls Tryz.prog 108 #[rtw v b p] w fun e w' => e = .returned (.bool false) ∧ Below w.heap.size w w' := by
 have D0 := (Below.al (Below.refl w.heap.size w) (.cells #[.int .i64 v, .int .i64 b, .int .i64 p] 130)).drew
 have T0 := (three_new w (.int .i64 v) (.int .i64 b) (.int .i64 p) 130).drew
 go_enter Tryz.func108, Tryz.ntmps108
 go_wp2_with fail
 refine wp_region_held_drew (S := (fun w' => w'.cell? ⟨w.heap.size, 0, none⟩ = some (.int .i64 v) ∧ w'.cell? ⟨w.heap.size, 1, none⟩ = some (.int .i64 b) ∧ w'.cell? ⟨w.heap.size, 2, none⟩ = some (.int .i64 p))) (by kernel_rfl) (Three.cells (n := w.heap.size) (by assumption)) (fun hHeld => ?_)
 refine tk 0 ?_; try simp only [ly]
 refine tk 1 ?_; try simp only [ly]
 refine tk 2 ?_; try simp only [ly]
 refine tk 3 ?_; try simp only [ly]
 refine tk0 4 ?_; try simp only [ly]
 refine tk0 5 ?_; try simp only [ly]
 refine tk0 6 ?_; try simp only [ly]
 refine tk 7 ?_; try simp only [ly]
 refine tk 8 ?_; try simp only [ly]
 refine tk0 9 ?_; try simp only [ly]
 refine tk0 10 ?_; try simp only [ly]
 refine tk0 11 ?_; try simp only [ly]
 refine tk 12 ?_; try simp only [ly]
 refine tk 13 ?_; try simp only [ly]
 refine tk0 14 ?_; try simp only [ly]
 refine tk0 15 ?_; try simp only [ly]
 refine tk0 16 ?_; try simp only [ly]
 refine tk 17 ?_; try simp only [ly]
 refine tk 18 ?_; try simp only [ly]
 refine tk0 19 ?_; try simp only [ly]
 refine tk0 20 ?_; try simp only [ly]
 refine tk0 21 ?_; try simp only [ly]
 refine tk0 22 ?_; try simp only [ly]
 refine tk0 23 ?_; try simp only [ly]
 refine tk0 24 ?_; try simp only [ly]
 refine tk0 25 ?_; try simp only [ly]
 refine tk0 26 ?_; try simp only [ly]
 refine tk 27 ?_; try simp only [ly]
 refine tk 28 ?_; try simp only [ly]
 refine tk0 29 ?_; try simp only [ly]
 refine tk0 30 ?_; try simp only [ly]
 refine tk0 31 ?_; try simp only [ly]
 refine tk 32 ?_; try simp only [ly]
 refine tk 33 ?_; try simp only [ly]
 refine tk0 34 ?_; try simp only [ly]
 refine tk0 35 ?_; try simp only [ly]
 refine tk0 36 ?_; try simp only [ly]
 refine tk 37 ?_; try simp only [ly]
 refine tk 38 ?_; try simp only [ly]
 refine wpAnyH_done (by kernel_rfl) ?_ _
 go_wp2
 go_ret
 exact ⟨by simp, by assumption⟩
theorem isr_b (v b p : Int) (w : World) (h : decide (0 <= b) = true) (h1 : decide (b <= 4) = false) : Calls Tryz.prog 108 #[rtw v b p] w fun e w' => e = .returned (.bool false) ∧ Below w.heap.size w w' := by
 have D0 := (Below.al (Below.refl w.heap.size w) (.cells #[.int .i64 v, .int .i64 b, .int .i64 p] 130)).drew
 have T0 := (three_new w (.int .i64 v) (.int .i64 b) (.int .i64 p) 130).drew
 go_enter Tryz.func108, Tryz.ntmps108
 go_wp2_with fail
 refine wp_region_held_drew (S := (fun w' => w'.cell? ⟨w.heap.size, 0, none⟩ = some (.int .i64 v) ∧ w'.cell? ⟨w.heap.size, 1, none⟩ = some (.int .i64 b) ∧ w'.cell? ⟨w.heap.size, 2, none⟩ = some (.int .i64 p))) (by kernel_rfl) (Three.cells (n := w.heap.size) (by assumption)) (fun hHeld => ?_)
 refine tk 0 ?_; try simp only [ly]
 refine tk 1 ?_; try simp only [ly]
 refine tk 2 ?_; try simp only [ly]
 refine tk 3 ?_; try simp only [ly]
 refine tk 4 ?_; try simp only [ly]
 refine tk 5 ?_; try simp only [ly]
 refine tk 6 ?_; try simp only [ly]
 refine tk 7 ?_; try simp only [ly]
 refine tk 8 ?_; try simp only [ly]
 refine tk0 9 ?_; try simp only [ly]
 refine tk0 10 ?_; try simp only [ly]
 refine tk0 11 ?_; try simp only [ly]
 refine tk 12 ?_; try simp only [ly]
 refine tk 13 ?_; try simp only [ly]
 refine tk0 14 ?_; try simp only [ly]
 refine tk0 15 ?_; try simp only [ly]
 refine tk0 16 ?_; try simp only [ly]
 refine tk 17 ?_; try simp only [ly]
 refine tk 18 ?_; try simp only [ly]
 refine tk0 19 ?_; try simp only [ly]
 refine tk0 20 ?_; try simp only [ly]
 refine tk0 21 ?_; try simp only [ly]
 refine tk0 22 ?_; try simp only [ly]
 refine tk0 23 ?_; try simp only [ly]
 refine tk0 24 ?_; try simp only [ly]
 refine tk0 25 ?_; try simp only [ly]
 refine tk0 26 ?_; try simp only [ly]
 refine tk 27 ?_; try simp only [ly]
 refine tk 28 ?_; try simp only [ly]
 refine tk0 29 ?_; try simp only [ly]
 refine tk0 30 ?_; try simp only [ly]
 refine tk0 31 ?_; try simp only [ly]
 refine tk 32 ?_; try simp only [ly]
 refine tk 33 ?_; try simp only [ly]
 refine tk0 34 ?_; try simp only [ly]
 refine tk0 35 ?_; try simp only [ly]
 refine tk0 36 ?_; try simp only [ly]
 refine tk 37 ?_; try simp only [ly]
 refine tk 38 ?_; try simp only [ly]
 refine wpAnyH_done (by kernel_rfl) ?_ _
 go_wp2
 go_ret
 exact ⟨by simp, by assumption⟩
theorem isr_c (v b p : Int) (w : World) (h : decide (0 <= b) = true) (h1 : decide (b <= 4) = true) (h2 : decide (0 <= v) = false) : Calls Tryz.prog 108 #[rtw v b p] w fun e w' => e = .returned (.bool false) ∧ Below w.heap.size w w' := by
 have D0 := (Below.al (Below.refl w.heap.size w) (.cells #[.int .i64 v, .int .i64 b, .int .i64 p] 130)).drew
 have T0 := (three_new w (.int .i64 v) (.int .i64 b) (.int .i64 p) 130).drew
 go_enter Tryz.func108, Tryz.ntmps108
 go_wp2_with fail
 refine wp_region_held_drew (S := (fun w' => w'.cell? ⟨w.heap.size, 0, none⟩ = some (.int .i64 v) ∧ w'.cell? ⟨w.heap.size, 1, none⟩ = some (.int .i64 b) ∧ w'.cell? ⟨w.heap.size, 2, none⟩ = some (.int .i64 p))) (by kernel_rfl) (Three.cells (n := w.heap.size) (by assumption)) (fun hHeld => ?_)
 refine tk 0 ?_; try simp only [ly]
 refine tk 1 ?_; try simp only [ly]
 refine tk 2 ?_; try simp only [ly]
 refine tk 3 ?_; try simp only [ly]
 refine tk 4 ?_; try simp only [ly]
 refine tk 5 ?_; try simp only [ly]
 refine tk 6 ?_; try simp only [ly]
 refine tk 7 ?_; try simp only [ly]
 refine tk 8 ?_; try simp only [ly]
 refine tk 9 ?_; try simp only [ly]
 refine tk 10 ?_; try simp only [ly]
 refine tk 11 ?_; try simp only [ly]
 refine tk 12 ?_; try simp only [ly]
 refine tk 13 ?_; try simp only [ly]
 refine tk0 14 ?_; try simp only [ly]
 refine tk0 15 ?_; try simp only [ly]
 refine tk0 16 ?_; try simp only [ly]
 refine tk 17 ?_; try simp only [ly]
 refine tk 18 ?_; try simp only [ly]
 refine tk0 19 ?_; try simp only [ly]
 refine tk0 20 ?_; try simp only [ly]
 refine tk0 21 ?_; try simp only [ly]
 refine tk0 22 ?_; try simp only [ly]
 refine tk0 23 ?_; try simp only [ly]
 refine tk0 24 ?_; try simp only [ly]
 refine tk0 25 ?_; try simp only [ly]
 refine tk0 26 ?_; try simp only [ly]
 refine tk 27 ?_; try simp only [ly]
 refine tk 28 ?_; try simp only [ly]
 refine tk0 29 ?_; try simp only [ly]
 refine tk0 30 ?_; try simp only [ly]
 refine tk0 31 ?_; try simp only [ly]
 refine tk 32 ?_; try simp only [ly]
 refine tk 33 ?_; try simp only [ly]
 refine tk0 34 ?_; try simp only [ly]
 refine tk0 35 ?_; try simp only [ly]
 refine tk0 36 ?_; try simp only [ly]
 refine tk 37 ?_; try simp only [ly]
 refine tk 38 ?_; try simp only [ly]
 refine wpAnyH_done (by kernel_rfl) ?_ _
 go_wp2
 go_ret
 exact ⟨by simp, by assumption⟩
theorem isr_d (v b p : Int) (w : World) (h : decide (0 <= b) = true) (h1 : decide (b <= 4) = true) (h2 : decide (0 <= v) = true) (h3 : decide (v < 16) = false) : Calls Tryz.prog 108 #[rtw v b p] w fun e w' => e = .returned (.bool false) ∧ Below w.heap.size w w' := by
 have D0 := (Below.al (Below.refl w.heap.size w) (.cells #[.int .i64 v, .int .i64 b, .int .i64 p] 130)).drew
 have T0 := (three_new w (.int .i64 v) (.int .i64 b) (.int .i64 p) 130).drew
 go_enter Tryz.func108, Tryz.ntmps108
 go_wp2_with fail
 refine wp_region_held_drew (S := (fun w' => w'.cell? ⟨w.heap.size, 0, none⟩ = some (.int .i64 v) ∧ w'.cell? ⟨w.heap.size, 1, none⟩ = some (.int .i64 b) ∧ w'.cell? ⟨w.heap.size, 2, none⟩ = some (.int .i64 p))) (by kernel_rfl) (Three.cells (n := w.heap.size) (by assumption)) (fun hHeld => ?_)
 refine tk 0 ?_; try simp only [ly]
 refine tk 1 ?_; try simp only [ly]
 refine tk 2 ?_; try simp only [ly]
 refine tk 3 ?_; try simp only [ly]
 refine tk 4 ?_; try simp only [ly]
 refine tk 5 ?_; try simp only [ly]
 refine tk 6 ?_; try simp only [ly]
 refine tk 7 ?_; try simp only [ly]
 refine tk 8 ?_; try simp only [ly]
 refine tk 9 ?_; try simp only [ly]
 refine tk 10 ?_; try simp only [ly]
 refine tk 11 ?_; try simp only [ly]
 refine tk 12 ?_; try simp only [ly]
 refine tk 13 ?_; try simp only [ly]
 refine tk 14 ?_; try simp only [ly]
 refine tk 15 ?_; try simp only [ly]
 refine tk 16 ?_; try simp only [ly]
 refine tk 17 ?_; try simp only [ly]
 refine tk 18 ?_; try simp only [ly]
 refine tk0 19 ?_; try simp only [ly]
 refine tk0 20 ?_; try simp only [ly]
 refine tk0 21 ?_; try simp only [ly]
 refine tk0 22 ?_; try simp only [ly]
 refine tk0 23 ?_; try simp only [ly]
 refine tk0 24 ?_; try simp only [ly]
 refine tk0 25 ?_; try simp only [ly]
 refine tk0 26 ?_; try simp only [ly]
 refine tk 27 ?_; try simp only [ly]
 refine tk 28 ?_; try simp only [ly]
 refine tk0 29 ?_; try simp only [ly]
 refine tk0 30 ?_; try simp only [ly]
 refine tk0 31 ?_; try simp only [ly]
 refine tk 32 ?_; try simp only [ly]
 refine tk 33 ?_; try simp only [ly]
 refine tk0 34 ?_; try simp only [ly]
 refine tk0 35 ?_; try simp only [ly]
 refine tk0 36 ?_; try simp only [ly]
 refine tk 37 ?_; try simp only [ly]
 refine tk 38 ?_; try simp only [ly]
 refine wpAnyH_done (by kernel_rfl) ?_ _
 go_wp2
 go_ret
 exact ⟨by simp, by assumption⟩
theorem isr_e (v b p m n : Int) (w : World) (h0 : decide (0 <= b) = true) (h1 : decide (b <= 4) = true) (h2 : decide (0 <= v) = true) (h3 : decide (v < 16) = true) (hm : (m = 0 ∧ n = 1) ∨ (m = 1 ∧ n = 2) ∨ (m = 2 ∧ n = 4) ∨ (m = 3 ∧ n = 8) ∨ (m = 4 ∧ n = 16)) (BE : Hid (∀ w, Calls Tryz.prog 137 #[rtw v b p] w fun e w' => e = .returned (.int .i64 m) ∧ Below w.heap.size w w')) (h4 : (Go.bits .and .i64 v (IntKind.i64.wrap (IntKind.i64.wrap n - 1)) == 0) = false) : Calls Tryz.prog 108 #[rtw v b p] w fun e w' => e = .returned (.bool false) ∧ Below w.heap.size w w' := by
 have D0 := (Below.al (Below.refl w.heap.size w) (.cells #[.int .i64 v, .int .i64 b, .int .i64 p] 130)).drew
 have T0 := (three_new w (.int .i64 v) (.int .i64 b) (.int .i64 p) 130).drew
 rcases hm with ⟨rfl, rfl⟩ | ⟨rfl, rfl⟩ | ⟨rfl, rfl⟩ | ⟨rfl, rfl⟩ | ⟨rfl, rfl⟩
 all_goals
  go_enter Tryz.func108, Tryz.ntmps108
  go_wp2_with fail
  refine wp_region_held_drew (S := (fun w' => w'.cell? ⟨w.heap.size, 0, none⟩ = some (.int .i64 v) ∧ w'.cell? ⟨w.heap.size, 1, none⟩ = some (.int .i64 b) ∧ w'.cell? ⟨w.heap.size, 2, none⟩ = some (.int .i64 p))) (by kernel_rfl) (Three.cells (n := w.heap.size) (by assumption)) (fun hHeld => ?_)
  refine tk 0 ?_; try simp only [ly]
  refine tk 1 ?_; try simp only [ly]
  refine tk 2 ?_; try simp only [ly]
  refine tk 3 ?_; try simp only [ly]
  refine tk 4 ?_; try simp only [ly]
  refine tk 5 ?_; try simp only [ly]
  refine tk 6 ?_; try simp only [ly]
  refine tk 7 ?_; try simp only [ly]
  refine tk 8 ?_; try simp only [ly]
  refine tk 9 ?_; try simp only [ly]
  refine tk 10 ?_; try simp only [ly]
  refine tk 11 ?_; try simp only [ly]
  refine tk 12 ?_; try simp only [ly]
  refine tk 13 ?_; try simp only [ly]
  refine tk 14 ?_; try simp only [ly]
  refine tk 15 ?_; try simp only [ly]
  refine tk 16 ?_; try simp only [ly]
  refine tk 17 ?_; try simp only [ly]
  refine tk 18 ?_; try simp only [ly]
  refine tk 19 ?_; try simp only [ly]
  refine tk 20 ?_; try simp only [ly]
  refine tk 21 ?_; try simp only [ly]
  refine rd 22 (fun K hK => ?_)
  go_simp
  refine (BE.out _).mono ?_; rintro e wz ⟨rfl, hbz⟩; have Dz := chn hbz (by assumption); have Pz := keepThree (n := w.heap.size) hbz (Three.lt (by assumption)) (by assumption); clear hbz
  try go_wp2_with fail
  clear hHeld
  refine hK.out _ _ (Three.cells (n := w.heap.size) (by assumption)) (fun hHeld => ?_)
  clear hK K
  try simp only [ly]
  refine tk 23 ?_; try simp only [ly]
  refine tk 24 ?_; try simp only [ly]
  refine tk 25 ?_; try simp only [ly]
  refine tk 26 ?_; try simp only [ly]
  refine tk 27 ?_; try simp only [ly]
  refine tk 28 ?_; try simp only [ly]
  refine tk0 29 ?_; try simp only [ly]
  refine tk0 30 ?_; try simp only [ly]
  refine tk0 31 ?_; try simp only [ly]
  refine tk 32 ?_; try simp only [ly]
  refine tk 33 ?_; try simp only [ly]
  refine tk0 34 ?_; try simp only [ly]
  refine tk0 35 ?_; try simp only [ly]
  refine tk0 36 ?_; try simp only [ly]
  refine tk 37 ?_; try simp only [ly]
  refine tk 38 ?_; try simp only [ly]
  refine wpAnyH_done (by kernel_rfl) ?_ _
  go_wp2
  go_ret
  exact ⟨by simp, by assumption⟩
theorem isr_f (v b p m n : Int) (w : World) (h0 : decide (0 <= b) = true) (h1 : decide (b <= 4) = true) (h2 : decide (0 <= v) = true) (h3 : decide (v < 16) = true) (hm : (m = 0 ∧ n = 1) ∨ (m = 1 ∧ n = 2) ∨ (m = 2 ∧ n = 4) ∨ (m = 3 ∧ n = 8) ∨ (m = 4 ∧ n = 16)) (BE : Hid (∀ w, Calls Tryz.prog 137 #[rtw v b p] w fun e w' => e = .returned (.int .i64 m) ∧ Below w.heap.size w w')) (h4 : (Go.bits .and .i64 v (IntKind.i64.wrap (IntKind.i64.wrap n - 1)) == 0) = true) (h5 : decide (0 <= p) = false) : Calls Tryz.prog 108 #[rtw v b p] w fun e w' => e = .returned (.bool false) ∧ Below w.heap.size w w' := by
 have D0 := (Below.al (Below.refl w.heap.size w) (.cells #[.int .i64 v, .int .i64 b, .int .i64 p] 130)).drew
 have T0 := (three_new w (.int .i64 v) (.int .i64 b) (.int .i64 p) 130).drew
 rcases hm with ⟨rfl, rfl⟩ | ⟨rfl, rfl⟩ | ⟨rfl, rfl⟩ | ⟨rfl, rfl⟩ | ⟨rfl, rfl⟩
 all_goals
  go_enter Tryz.func108, Tryz.ntmps108
  go_wp2_with fail
  refine wp_region_held_drew (S := (fun w' => w'.cell? ⟨w.heap.size, 0, none⟩ = some (.int .i64 v) ∧ w'.cell? ⟨w.heap.size, 1, none⟩ = some (.int .i64 b) ∧ w'.cell? ⟨w.heap.size, 2, none⟩ = some (.int .i64 p))) (by kernel_rfl) (Three.cells (n := w.heap.size) (by assumption)) (fun hHeld => ?_)
  refine tk 0 ?_; try simp only [ly]
  refine tk 1 ?_; try simp only [ly]
  refine tk 2 ?_; try simp only [ly]
  refine tk 3 ?_; try simp only [ly]
  refine tk 4 ?_; try simp only [ly]
  refine tk 5 ?_; try simp only [ly]
  refine tk 6 ?_; try simp only [ly]
  refine tk 7 ?_; try simp only [ly]
  refine tk 8 ?_; try simp only [ly]
  refine tk 9 ?_; try simp only [ly]
  refine tk 10 ?_; try simp only [ly]
  refine tk 11 ?_; try simp only [ly]
  refine tk 12 ?_; try simp only [ly]
  refine tk 13 ?_; try simp only [ly]
  refine tk 14 ?_; try simp only [ly]
  refine tk 15 ?_; try simp only [ly]
  refine tk 16 ?_; try simp only [ly]
  refine tk 17 ?_; try simp only [ly]
  refine tk 18 ?_; try simp only [ly]
  refine tk 19 ?_; try simp only [ly]
  refine tk 20 ?_; try simp only [ly]
  refine tk 21 ?_; try simp only [ly]
  refine rd 22 (fun K hK => ?_)
  go_simp
  refine (BE.out _).mono ?_; rintro e wz ⟨rfl, hbz⟩; have Dz := chn hbz (by assumption); have Pz := keepThree (n := w.heap.size) hbz (Three.lt (by assumption)) (by assumption); clear hbz
  try go_wp2_with fail
  clear hHeld
  refine hK.out _ _ (Three.cells (n := w.heap.size) (by assumption)) (fun hHeld => ?_)
  clear hK K
  try simp only [ly]
  refine tk 23 ?_; try simp only [ly]
  refine tk 24 ?_; try simp only [ly]
  refine tk 25 ?_; try simp only [ly]
  refine tk 26 ?_; try simp only [ly]
  refine tk 27 ?_; try simp only [ly]
  refine tk 28 ?_; try simp only [ly]
  refine tk 29 ?_; try simp only [ly]
  refine tk 30 ?_; try simp only [ly]
  refine tk 31 ?_; try simp only [ly]
  refine tk 32 ?_; try simp only [ly]
  refine tk 33 ?_; try simp only [ly]
  refine tk0 34 ?_; try simp only [ly]
  refine tk0 35 ?_; try simp only [ly]
  refine tk0 36 ?_; try simp only [ly]
  refine tk 37 ?_; try simp only [ly]
  refine tk 38 ?_; try simp only [ly]
  refine wpAnyH_done (by kernel_rfl) ?_ _
  go_wp2
  go_ret
  exact ⟨by simp, by assumption⟩
theorem isr_g (v b p m n : Int) (w : World) (h0 : decide (0 <= b) = true) (h1 : decide (b <= 4) = true) (h2 : decide (0 <= v) = true) (h3 : decide (v < 16) = true) (hm : (m = 0 ∧ n = 1) ∨ (m = 1 ∧ n = 2) ∨ (m = 2 ∧ n = 4) ∨ (m = 3 ∧ n = 8) ∨ (m = 4 ∧ n = 16)) (BE : Hid (∀ w, Calls Tryz.prog 137 #[rtw v b p] w fun e w' => e = .returned (.int .i64 m) ∧ Below w.heap.size w w')) (h4 : (Go.bits .and .i64 v (IntKind.i64.wrap (IntKind.i64.wrap n - 1)) == 0) = true) (h5 : decide (0 <= p) = true) : Calls Tryz.prog 108 #[rtw v b p] w fun e w' => e = .returned (.bool (decide (p < 4))) ∧ Below w.heap.size w w' := by
 have D0 := (Below.al (Below.refl w.heap.size w) (.cells #[.int .i64 v, .int .i64 b, .int .i64 p] 130)).drew
 have T0 := (three_new w (.int .i64 v) (.int .i64 b) (.int .i64 p) 130).drew
 rcases hm with ⟨rfl, rfl⟩ | ⟨rfl, rfl⟩ | ⟨rfl, rfl⟩ | ⟨rfl, rfl⟩ | ⟨rfl, rfl⟩
 all_goals
  go_enter Tryz.func108, Tryz.ntmps108
  go_wp2_with fail
  refine wp_region_held_drew (S := (fun w' => w'.cell? ⟨w.heap.size, 0, none⟩ = some (.int .i64 v) ∧ w'.cell? ⟨w.heap.size, 1, none⟩ = some (.int .i64 b) ∧ w'.cell? ⟨w.heap.size, 2, none⟩ = some (.int .i64 p))) (by kernel_rfl) (Three.cells (n := w.heap.size) (by assumption)) (fun hHeld => ?_)
  refine tk 0 ?_; try simp only [ly]
  refine tk 1 ?_; try simp only [ly]
  refine tk 2 ?_; try simp only [ly]
  refine tk 3 ?_; try simp only [ly]
  refine tk 4 ?_; try simp only [ly]
  refine tk 5 ?_; try simp only [ly]
  refine tk 6 ?_; try simp only [ly]
  refine tk 7 ?_; try simp only [ly]
  refine tk 8 ?_; try simp only [ly]
  refine tk 9 ?_; try simp only [ly]
  refine tk 10 ?_; try simp only [ly]
  refine tk 11 ?_; try simp only [ly]
  refine tk 12 ?_; try simp only [ly]
  refine tk 13 ?_; try simp only [ly]
  refine tk 14 ?_; try simp only [ly]
  refine tk 15 ?_; try simp only [ly]
  refine tk 16 ?_; try simp only [ly]
  refine tk 17 ?_; try simp only [ly]
  refine tk 18 ?_; try simp only [ly]
  refine tk 19 ?_; try simp only [ly]
  refine tk 20 ?_; try simp only [ly]
  refine tk 21 ?_; try simp only [ly]
  refine rd 22 (fun K hK => ?_)
  go_simp
  refine (BE.out _).mono ?_; rintro e wz ⟨rfl, hbz⟩; have Dz := chn hbz (by assumption); have Pz := keepThree (n := w.heap.size) hbz (Three.lt (by assumption)) (by assumption); clear hbz
  try go_wp2_with fail
  clear hHeld
  refine hK.out _ _ (Three.cells (n := w.heap.size) (by assumption)) (fun hHeld => ?_)
  clear hK K
  try simp only [ly]
  refine tk 23 ?_; try simp only [ly]
  refine tk 24 ?_; try simp only [ly]
  refine tk 25 ?_; try simp only [ly]
  refine tk 26 ?_; try simp only [ly]
  refine tk 27 ?_; try simp only [ly]
  refine tk 28 ?_; try simp only [ly]
  refine tk 29 ?_; try simp only [ly]
  refine tk 30 ?_; try simp only [ly]
  refine tk 31 ?_; try simp only [ly]
  refine tk 32 ?_; try simp only [ly]
  refine tk 33 ?_; try simp only [ly]
  refine tk 34 ?_; try simp only [ly]
  refine tk 35 ?_; try simp only [ly]
  refine tk 36 ?_; try simp only [ly]
  refine tk 37 ?_; try simp only [ly]
  refine tk 38 ?_; try simp only [ly]
  refine wpAnyH_done (by kernel_rfl) ?_ _
  go_wp2
  go_ret
  exact ⟨by simp, by assumption⟩
theorem isr_0 (v p : Int) (w : World) (h2 : decide (0 <= v) = true) (h3 : decide (v < 16) = true) : Calls Tryz.prog 108 #[rtw v 4 p] w fun e w' => e = .returned (.bool (isR ⟨v, 4, p⟩)) ∧ Below w.heap.size w w' := by
 have hm := and_mask v 0 0 (of_decide_eq_true h2) (of_decide_eq_true h3) (by decide) (by decide)
 have e : isR ⟨v, 4, p⟩ = ((Go.bits .and .i64 v (IntKind.i64.wrap (IntKind.i64.wrap 1 - 1)) == 0) && decide (0 <= p) && decide (p < 4)) := by
  rw [show IntKind.i64.wrap (IntKind.i64.wrap 1 - 1) = ((0 : Nat) : Int) from rfl, hm]
  show (decide ((0 : Int) <= 4) && decide ((4 : Int) <= 4) && decide (0 <= v) && decide (v < 16) && decide (v % 1 = 0) && decide (0 <= p) && decide (p < 4)) = (decide (v % 1 = 0) && decide (0 <= p) && decide (p < 4))
  rw [h2, h3]
  simp
 rw [e]
 cases h4 : (Go.bits .and .i64 v (IntKind.i64.wrap (IntKind.i64.wrap 1 - 1)) == 0)
 ·exact isr_e v 4 p 0 1 w rfl rfl h2 h3 (by simp) (fun w => behind_0 v p w) h4
 cases h5 : decide (0 <= p)
 ·exact isr_f v 4 p 0 1 w rfl rfl h2 h3 (by simp) (fun w => behind_0 v p w) h4 h5
 ·exact isr_g v 4 p 0 1 w rfl rfl h2 h3 (by simp) (fun w => behind_0 v p w) h4 h5
theorem isr_1 (v p : Int) (w : World) (h2 : decide (0 <= v) = true) (h3 : decide (v < 16) = true) : Calls Tryz.prog 108 #[rtw v 3 p] w fun e w' => e = .returned (.bool (isR ⟨v, 3, p⟩)) ∧ Below w.heap.size w w' := by
 have hm := and_mask v 1 1 (of_decide_eq_true h2) (of_decide_eq_true h3) (by decide) (by decide)
 have e : isR ⟨v, 3, p⟩ = ((Go.bits .and .i64 v (IntKind.i64.wrap (IntKind.i64.wrap 2 - 1)) == 0) && decide (0 <= p) && decide (p < 4)) := by
  rw [show IntKind.i64.wrap (IntKind.i64.wrap 2 - 1) = ((1 : Nat) : Int) from rfl, hm]
  show (decide ((0 : Int) <= 3) && decide ((3 : Int) <= 4) && decide (0 <= v) && decide (v < 16) && decide (v % 2 = 0) && decide (0 <= p) && decide (p < 4)) = (decide (v % 2 = 0) && decide (0 <= p) && decide (p < 4))
  rw [h2, h3]
  simp
 rw [e]
 cases h4 : (Go.bits .and .i64 v (IntKind.i64.wrap (IntKind.i64.wrap 2 - 1)) == 0)
 ·exact isr_e v 3 p 1 2 w rfl rfl h2 h3 (by simp) (fun w => behind_1 v p w) h4
 cases h5 : decide (0 <= p)
 ·exact isr_f v 3 p 1 2 w rfl rfl h2 h3 (by simp) (fun w => behind_1 v p w) h4 h5
 ·exact isr_g v 3 p 1 2 w rfl rfl h2 h3 (by simp) (fun w => behind_1 v p w) h4 h5
end Go.Proofs.YtlmmeppifkigeaaGreat
