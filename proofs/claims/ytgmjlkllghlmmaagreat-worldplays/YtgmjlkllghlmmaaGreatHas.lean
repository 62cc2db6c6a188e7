/-
  What a set of numbers has, and what a match has: package match's calls addrs, ports, has, In and All.
-/
import Derived.Test.YtgmjlkllghlmmaaGreatLy
import Derived.Test.YtgmjlkllghlmmaaGreatProg
import Derived.WalkKit
import Derived.WalkSpells
import Derived.WalkLawsBesides
import Derived.Handy
import Derived.BigQuiet
import Derived.Deep.QuietTactic
import Derived.Deep.RegionHeld3
import Derived.Deep.DeepCutAuto
namespace Go.Proofs.YtgmjlkllghlmmaaGreat
open Go.RowKit

/-- A set: its bits, its size. -/
abbrev st (b n : Int) : Value := .agg #[.int .i64 b, .int .i64 n]
/-- A match. -/
abbrev mt (a b c d : Nat) : Value := .agg #[.int .u16 (a : Int), .int .u16 (b : Int), .int .u8 (c : Int), .int .u8 (d : Int)]
abbrev pk (a b c d : Int) : Value := .agg #[.int .i64 a, .int .i64 b, .int .i64 c, .int .i64 d]
/-- Is a number in a set? -/
def hasB (b : Nat) (n : Int) : Bool := decide (0 ≤ n) && b.testBit n.toNat

theorem chain {W0 W w' : World} (hb : Below W.heap.size W w') (h : Below W0.heap.size W0 W) : Below W0.heap.size W0 w' := h.trans (hb.mono h.size)
theorem Below.alloc' {W0 w : World} (h : Below W0.heap.size W0 w) (o : Obj) : Below W0.heap.size W0 (w.alloc o) := h.alloc h.size o

/-- Four cells lie in a block of their own. -/
def Four (w : World) (n : Nat) (a b c d : Value) : Prop :=
  n < w.heap.size ∧ w.cell? ⟨n, 0, none⟩ = some a ∧ w.cell? ⟨n, 1, none⟩ = some b ∧ w.cell? ⟨n, 2, none⟩ = some c ∧ w.cell? ⟨n, 3, none⟩ = some d
theorem keepFour {W w' : World} {n : Nat} {a b c d : Value} (hb : Below W.heap.size W w') (h : Four W n a b c d) : Four w' n a b c d := by
  obtain ⟨h0, h1, h2, h3, h4⟩ := h
  exact ⟨Nat.lt_of_lt_of_le h0 hb.size, (hb.cell (p := ⟨n, 0, none⟩) h0).trans h1, (hb.cell (p := ⟨n, 1, none⟩) h0).trans h2, (hb.cell (p := ⟨n, 2, none⟩) h0).trans h3, (hb.cell (p := ⟨n, 3, none⟩) h0).trans h4⟩
theorem Four.drew {w : World} {n : Nat} {a b c d : Value} (h : Four w n a b c d) : Four w.drew n a b c d := h
theorem four_new (w : World) (a b c d : Value) (t : TypeId) : Four (w.alloc (.cells #[a, b, c, d] t)) w.heap.size a b c d :=
  ⟨by simp, by simp [go_sem], by simp [go_sem], by simp [go_sem], by simp [go_sem]⟩
theorem allocFour {w : World} {n : Nat} {a b c d : Value} (h : Four w n a b c d) (o : Obj) : Four (w.alloc o) n a b c d := keepFour ((Below.refl _ _).alloc (Nat.le_refl _) o) h
theorem two_fours {w' : World} {n1 n2 : Nat} {a1 b1 c1 d1 a2 b2 c2 d2 : Value} (h1 : Four w' n1 a1 b1 c1 d1) (h2 : Four w' n2 a2 b2 c2 d2) :
    w'.cell? ⟨n1, 0, none⟩ = some a1 ∧ w'.cell? ⟨n1, 1, none⟩ = some b1 ∧ w'.cell? ⟨n1, 2, none⟩ = some c1 ∧ w'.cell? ⟨n1, 3, none⟩ = some d1 ∧
    w'.cell? ⟨n2, 0, none⟩ = some a2 ∧ w'.cell? ⟨n2, 1, none⟩ = some b2 ∧ w'.cell? ⟨n2, 2, none⟩ = some c2 ∧ w'.cell? ⟨n2, 3, none⟩ = some d2 :=
  ⟨h1.2.1, h1.2.2.1, h1.2.2.2.1, h1.2.2.2.2, h2.2.1, h2.2.2.1, h2.2.2.2.1, h2.2.2.2.2⟩

theorem addrs_any (b : Nat) (w : World) (h1 : b < 65536) :
    Calls Tryz.prog 122 #[.int .u16 (b : Int)] w fun e w' => e = .returned (st b 16) ∧ Below w.heap.size w w' := by
  go_enter Tryz.func122, Tryz.ntmps122
  go_wp2_with fail
  exact bodyPost_ret (v := st b 16) (by simp [results, Tryz.results122, go_sem]) rfl ⟨rfl, by go_grown⟩
theorem ports_any (b : Nat) (w : World) (h1 : b < 256) :
    Calls Tryz.prog 124 #[.int .u8 (b : Int)] w fun e w' => e = .returned (st b 8) ∧ Below w.heap.size w w' := by
  go_enter Tryz.func124, Tryz.ntmps124
  go_wp2_with fail
  exact bodyPost_ret (v := st b 8) (by simp [results, Tryz.results124, go_sem]) rfl ⟨rfl, by go_grown⟩
theorem shr_any (b n : Nat) (hb : b < 2 ^ 62) : Op.shift .shr .i64 (b : Int) .i64 (n : Int) = (pure (.int .i64 ((b >>> n : Nat) : Int)) : Sem Value) := by
  by_cases h : n ≤ 64
  · rw [shift_shr _ _ _ _ (by omega) (by show (n : Int) ≤ 64; omega), Nat.shiftRight_eq_div_pow, Int.toNat_natCast]
    simp
  · have hp : 2 ^ 64 ≤ 2 ^ n := Nat.pow_le_pow_right (by omega) (by omega)
    have e : b >>> n = 0 := by rw [Nat.shiftRight_eq_div_pow, Nat.div_eq_of_lt (by omega)]
    have hm : min n IntKind.i64.bits = 64 := by show min n 64 = 64; omega
    have hf : (b : Int).fdiv (2 ^ 64) = 0 := by
      rw [Int.fdiv_eq_ediv_of_nonneg _ (by decide), Int.ediv_eq_zero_of_lt (by omega) (by omega)]
    rw [e]
    simp only [Op.shift, Int.toNat_natCast, hm, hf]
    rw [if_neg (by omega)]
    rfl
theorem bits_one (q : Nat) (hq : q < 2 ^ 62) : (Go.bits .and .i64 (q : Int) 1 == 1) = (q % 2 == 1) := by
  have e1 : BitVec.ofInt 64 (q : Int) = BitVec.ofNat 64 q := by simp
  have hm : (BitVec.ofNat 64 q &&& BitVec.ofInt 64 1).toNat = q % 2 := by
    rw [show BitVec.ofInt 64 1 = BitVec.ofNat 64 1 by rfl, BitVec.toNat_and, BitVec.toNat_ofNat, BitVec.toNat_ofNat, Nat.mod_eq_of_lt (show q < 2 ^ 64 by omega)]
    exact Nat.and_one_is_mod q
  have e2 : Go.bits .and .i64 (q : Int) 1 = ((q % 2 : Nat) : Int) := by
    show IntKind.i64.wrap ((BitVec.ofInt 64 (q : Int) &&& BitVec.ofInt 64 1).toNat : Int) = _
    rw [e1, hm, IntWalk.i64_in _ (by omega)]
  rw [e2]
  have : q % 2 = 0 ∨ q % 2 = 1 := by omega
  rcases this with h | h <;> rw [h] <;> rfl

set_option maxHeartbeats 400000 in
theorem has_any (b : Nat) (n z : Int) (w : World) (h1 : b < 65536) :
    Calls Tryz.prog 123 #[st b z, .int .i64 n] w fun e w' => e = .returned (.bool (hasB b n)) ∧ Below w.heap.size w w' := by
  by_cases hn : 0 ≤ n
  · obtain ⟨k, rfl⟩ : ∃ k : Nat, n = k := ⟨n.toNat, by omega⟩
    have t : decide (0 ≤ (k : Int)) = true := by simp
    have hs := shr_any b k (by omega)
    have hle : b >>> k ≤ b := by rw [Nat.shiftRight_eq_div_pow]; exact Nat.div_le_self _ _
    have he : Hid ((Go.bits .and .i64 ((b >>> k : Nat) : Int) 1 == 1) = hasB b k) := by
      show _ = _
      rw [bits_one _ (by omega), hasB, t, Bool.true_and, Int.toNat_natCast, Nat.testBit, Nat.one_and_eq_mod_two]
      have : (b >>> k) % 2 = 0 ∨ (b >>> k) % 2 = 1 := by omega
      rcases this with h | h <;> rw [h] <;> rfl
    clear hn hle
    generalize b >>> k = q at *
    go_enter Tryz.func123, Tryz.ntmps123
    go_wp2_with fail
    go_ret
    refine ⟨?_, by go_grown⟩
    rw [← he.out]
    simp
  · have t : decide (0 ≤ n) = false := by simp; omega
    have e : hasB b n = false := by unfold hasB; rw [t, Bool.false_and]
    rw [e]
    go_enter Tryz.func123, Tryz.ntmps123
    go_wp2_with fail
    go_ret
    exact ⟨rfl, by go_grown⟩

set_option maxHeartbeats 4000000 in
set_option maxRecDepth 100000 in
theorem in_case (a b c d : Nat) (p q r s : Int) (w : World) (x0 x1 x2 x3 : Bool)
    (hA : Hid (∀ w, Calls Tryz.prog 122 #[.int .u16 (a : Int)] w fun e w' => e = .returned (st a 16) ∧ Below w.heap.size w w'))
    (hB : Hid (∀ w, Calls Tryz.prog 122 #[.int .u16 (b : Int)] w fun e w' => e = .returned (st b 16) ∧ Below w.heap.size w w'))
    (hC : Hid (∀ w, Calls Tryz.prog 124 #[.int .u8 (c : Int)] w fun e w' => e = .returned (st c 8) ∧ Below w.heap.size w w'))
    (hD : Hid (∀ w, Calls Tryz.prog 124 #[.int .u8 (d : Int)] w fun e w' => e = .returned (st d 8) ∧ Below w.heap.size w w'))
    (h0 : Hid (∀ w, Calls Tryz.prog 123 #[st a 16, .int .i64 p] w fun e w' => e = .returned (.bool x0) ∧ Below w.heap.size w w'))
    (h1 : Hid (∀ w, Calls Tryz.prog 123 #[st b 16, .int .i64 q] w fun e w' => e = .returned (.bool x1) ∧ Below w.heap.size w w'))
    (h2 : Hid (∀ w, Calls Tryz.prog 123 #[st c 8, .int .i64 r] w fun e w' => e = .returned (.bool x2) ∧ Below w.heap.size w w'))
    (h3 : Hid (∀ w, Calls Tryz.prog 123 #[st d 8, .int .i64 s] w fun e w' => e = .returned (.bool x3) ∧ Below w.heap.size w w')) :
    Calls Tryz.prog 117 #[mt a b c d, pk p q r s] w fun e w' => e = .returned (.bool (x0 && x1 && x2 && x3)) ∧ Below w.heap.size w w' := by
  have F1 := (allocFour (four_new w (.int .u16 (a : Int)) (.int .u16 (b : Int)) (.int .u8 (c : Int)) (.int .u8 (d : Int)) 138) (.cells #[.int .i64 p, .int .i64 q, .int .i64 r, .int .i64 s] 39)).drew
  have F2 := (four_new (w.alloc (.cells #[.int .u16 (a : Int), .int .u16 (b : Int), .int .u8 (c : Int), .int .u8 (d : Int)] 138)) (.int .i64 p) (.int .i64 q) (.int .i64 r) (.int .i64 s) 39).drew
  have D1 := (Below.alloc' (Below.alloc' (Below.refl w.heap.size w) (.cells #[.int .u16 (a : Int), .int .u16 (b : Int), .int .u8 (c : Int), .int .u8 (d : Int)] 138)) (.cells #[.int .i64 p, .int .i64 q, .int .i64 r, .int .i64 s] 39)).drew
  rw [show (w.alloc (.cells #[.int .u16 (a : Int), .int .u16 (b : Int), .int .u8 (c : Int), .int .u8 (d : Int)] 138)).heap.size = w.heap.size + 1 by simp] at F2
  cases x0
  · go_enter Tryz.func117, Tryz.ntmps117
    go_wp2_with fail
    refine wp_region_held_drew (S := (fun w' => w'.cell? ⟨w.heap.size, 0, none⟩ = some (.int .u16 (a : Int)) ∧ w'.cell? ⟨w.heap.size, 1, none⟩ = some (.int .u16 (b : Int)) ∧ w'.cell? ⟨w.heap.size, 2, none⟩ = some (.int .u8 (c : Int)) ∧ w'.cell? ⟨w.heap.size, 3, none⟩ = some (.int .u8 (d : Int)) ∧ w'.cell? ⟨w.heap.size + 1, 0, none⟩ = some (.int .i64 p) ∧ w'.cell? ⟨w.heap.size + 1, 1, none⟩ = some (.int .i64 q) ∧ w'.cell? ⟨w.heap.size + 1, 2, none⟩ = some (.int .i64 r) ∧ w'.cell? ⟨w.heap.size + 1, 3, none⟩ = some (.int .i64 s))) (by kernel_rfl) (two_fours (by assumption) (by assumption)) (fun hHeld => ?_)
    refine' tk 0 rfl (by kernel_rfl) (fun _ _ _ h => h) (by rfl) (by assumption) ?y1 ?r1
    case y1 => (intro w h; (try dsimp only at h); go_simp; (try with_reducible rfl))
    try simp only [lays]
    refine' tk 1 rfl (by kernel_rfl) (fun _ _ _ h => h) (by rfl) (by assumption) ?y2 ?r2
    case y2 => (intro w h; (try dsimp only at h); go_simp; (try with_reducible rfl))
    try simp only [lays]
    refine' tk 3 rfl (by kernel_rfl) (fun _ _ _ h => h) (by rfl) (by assumption) ?y3 ?r3
    case y3 => (intro w h; (try dsimp only at h); go_simp; (try with_reducible rfl))
    try simp only [lays]
    refine' tk 4 rfl (by kernel_rfl) (fun _ _ _ h => h) (by rfl) (by assumption) ?y4 ?r4
    case y4 => (intro w h; (try dsimp only at h); go_simp; (try with_reducible rfl))
    try simp only [lays]
    refine wpAnyH_ready (rs := [2]) (by kernel_rfl) (by simp) (AllReadyH.cons rfl (fun K hK => ?_) AllReadyH.nil)
    go_simp
    refine (hA.out _).mono ?_; rintro e wz ⟨rfl, hbz⟩; have Dz := chain hbz (by assumption); have Pz := keepFour (n := w.heap.size) hbz (by assumption); have Qz := keepFour (n := w.heap.size + 1) hbz (by assumption); clear hbz
    try go_wp2_with fail
    clear hHeld
    refine hK.out _ _ (two_fours (by assumption) (by assumption)) (fun hHeld => ?_)
    clear hK K
    try simp only [lays]
    refine wpAnyH_ready (rs := [5]) (by kernel_rfl) (by simp) (AllReadyH.cons rfl (fun K hK => ?_) AllReadyH.nil)
    go_simp
    refine (h0.out _).mono ?_; rintro e wz ⟨rfl, hbz⟩; have Dz := chain hbz (by assumption); have Pz := keepFour (n := w.heap.size) hbz (by assumption); have Qz := keepFour (n := w.heap.size + 1) hbz (by assumption); clear hbz
    try go_wp2_with fail
    clear hHeld
    refine hK.out _ _ (two_fours (by assumption) (by assumption)) (fun hHeld => ?_)
    clear hK K
    try simp only [lays]
    refine' tk 6 rfl (by kernel_rfl) (fun _ _ _ h => h) (by rfl) (by assumption) ?y7 ?r7
    case y7 => (intro w h; (try dsimp only at h); go_simp; (try with_reducible rfl))
    try simp only [lays]
    refine' tk0 7 rfl (by kernel_rfl) (fun _ _ _ h => h) (by rfl) (by assumption) ?_
    try simp only [lays]
    refine' tk0 8 rfl (by kernel_rfl) (fun _ _ _ h => h) (by rfl) (by assumption) ?_
    try simp only [lays]
    refine' tk0 9 rfl (by kernel_rfl) (fun _ _ _ h => h) (by rfl) (by assumption) ?_
    try simp only [lays]
    refine' tk0 10 rfl (by kernel_rfl) (fun _ _ _ h => h) (by rfl) (by assumption) ?_
    try simp only [lays]
    refine' tk0 11 rfl (by kernel_rfl) (fun _ _ _ h => h) (by rfl) (by assumption) ?_
    try simp only [lays]
    refine' tk0 12 rfl (by kernel_rfl) (fun _ _ _ h => h) (by rfl) (by assumption) ?_
    try simp only [lays]
    refine' tk 13 rfl (by kernel_rfl) (fun _ _ _ h => h) (by rfl) (by assumption) ?y14 ?r14
    case y14 => (intro w h; (try dsimp only at h); go_simp; (try with_reducible rfl))
    try simp only [lays]
    refine' tk 14 rfl (by kernel_rfl) (fun _ _ _ h => h) (by rfl) (by assumption) ?y15 ?r15
    case y15 => (intro w h; (try dsimp only at h); go_simp; (try with_reducible rfl))
    try simp only [lays]
    refine' tk0 15 rfl (by kernel_rfl) (fun _ _ _ h => h) (by rfl) (by assumption) ?_
    try simp only [lays]
    refine' tk0 16 rfl (by kernel_rfl) (fun _ _ _ h => h) (by rfl) (by assumption) ?_
    try simp only [lays]
    refine' tk0 17 rfl (by kernel_rfl) (fun _ _ _ h => h) (by rfl) (by assumption) ?_
    try simp only [lays]
    refine' tk0 18 rfl (by kernel_rfl) (fun _ _ _ h => h) (by rfl) (by assumption) ?_
    try simp only [lays]
    refine' tk0 19 rfl (by kernel_rfl) (fun _ _ _ h => h) (by rfl) (by assumption) ?_
    try simp only [lays]
    refine' tk0 20 rfl (by kernel_rfl) (fun _ _ _ h => h) (by rfl) (by assumption) ?_
    try simp only [lays]
    refine' tk 21 rfl (by kernel_rfl) (fun _ _ _ h => h) (by rfl) (by assumption) ?y22 ?r22
    case y22 => (intro w h; (try dsimp only at h); go_simp; (try with_reducible rfl))
    try simp only [lays]
    refine' tk 22 rfl (by kernel_rfl) (fun _ _ _ h => h) (by rfl) (by assumption) ?y23 ?r23
    case y23 => (intro w h; (try dsimp only at h); go_simp; (try with_reducible rfl))
    try simp only [lays]
    refine' tk0 23 rfl (by kernel_rfl) (fun _ _ _ h => h) (by rfl) (by assumption) ?_
    try simp only [lays]
    refine' tk0 24 rfl (by kernel_rfl) (fun _ _ _ h => h) (by rfl) (by assumption) ?_
    try simp only [lays]
    refine' tk0 25 rfl (by kernel_rfl) (fun _ _ _ h => h) (by rfl) (by assumption) ?_
    try simp only [lays]
    refine' tk0 26 rfl (by kernel_rfl) (fun _ _ _ h => h) (by rfl) (by assumption) ?_
    try simp only [lays]
    refine' tk0 27 rfl (by kernel_rfl) (fun _ _ _ h => h) (by rfl) (by assumption) ?_
    try simp only [lays]
    refine' tk0 28 rfl (by kernel_rfl) (fun _ _ _ h => h) (by rfl) (by assumption) ?_
    try simp only [lays]
    refine' tk 29 rfl (by kernel_rfl) (fun _ _ _ h => h) (by rfl) (by assumption) ?y30 ?r30
    case y30 => (intro w h; (try dsimp only at h); go_simp; (try with_reducible rfl))
    try simp only [lays]
    refine' tk 30 rfl (by kernel_rfl) (fun _ _ _ h => h) (by rfl) (by assumption) ?y31 ?r31
    case y31 => (intro w h; (try dsimp only at h); go_simp; (try with_reducible rfl))
    try simp only [lays]
    refine wpAnyH_done (by kernel_rfl) ?_ _
    go_wp2
    go_ret
    exact ⟨by simp, by assumption⟩
  · cases x1
    · go_enter Tryz.func117, Tryz.ntmps117
      go_wp2_with fail
      refine wp_region_held_drew (S := (fun w' => w'.cell? ⟨w.heap.size, 0, none⟩ = some (.int .u16 (a : Int)) ∧ w'.cell? ⟨w.heap.size, 1, none⟩ = some (.int .u16 (b : Int)) ∧ w'.cell? ⟨w.heap.size, 2, none⟩ = some (.int .u8 (c : Int)) ∧ w'.cell? ⟨w.heap.size, 3, none⟩ = some (.int .u8 (d : Int)) ∧ w'.cell? ⟨w.heap.size + 1, 0, none⟩ = some (.int .i64 p) ∧ w'.cell? ⟨w.heap.size + 1, 1, none⟩ = some (.int .i64 q) ∧ w'.cell? ⟨w.heap.size + 1, 2, none⟩ = some (.int .i64 r) ∧ w'.cell? ⟨w.heap.size + 1, 3, none⟩ = some (.int .i64 s))) (by kernel_rfl) (two_fours (by assumption) (by assumption)) (fun hHeld => ?_)
      refine' tk 0 rfl (by kernel_rfl) (fun _ _ _ h => h) (by rfl) (by assumption) ?y33 ?r33
      case y33 => (intro w h; (try dsimp only at h); go_simp; (try with_reducible rfl))
      try simp only [lays]
      refine' tk 1 rfl (by kernel_rfl) (fun _ _ _ h => h) (by rfl) (by assumption) ?y34 ?r34
      case y34 => (intro w h; (try dsimp only at h); go_simp; (try with_reducible rfl))
      try simp only [lays]
      refine' tk 3 rfl (by kernel_rfl) (fun _ _ _ h => h) (by rfl) (by assumption) ?y35 ?r35
      case y35 => (intro w h; (try dsimp only at h); go_simp; (try with_reducible rfl))
      try simp only [lays]
      refine' tk 4 rfl (by kernel_rfl) (fun _ _ _ h => h) (by rfl) (by assumption) ?y36 ?r36
      case y36 => (intro w h; (try dsimp only at h); go_simp; (try with_reducible rfl))
      try simp only [lays]
      refine wpAnyH_ready (rs := [2]) (by kernel_rfl) (by simp) (AllReadyH.cons rfl (fun K hK => ?_) AllReadyH.nil)
      go_simp
      refine (hA.out _).mono ?_; rintro e wz ⟨rfl, hbz⟩; have Dz := chain hbz (by assumption); have Pz := keepFour (n := w.heap.size) hbz (by assumption); have Qz := keepFour (n := w.heap.size + 1) hbz (by assumption); clear hbz
      try go_wp2_with fail
      clear hHeld
      refine hK.out _ _ (two_fours (by assumption) (by assumption)) (fun hHeld => ?_)
      clear hK K
      try simp only [lays]
      refine wpAnyH_ready (rs := [5]) (by kernel_rfl) (by simp) (AllReadyH.cons rfl (fun K hK => ?_) AllReadyH.nil)
      go_simp
      refine (h0.out _).mono ?_; rintro e wz ⟨rfl, hbz⟩; have Dz := chain hbz (by assumption); have Pz := keepFour (n := w.heap.size) hbz (by assumption); have Qz := keepFour (n := w.heap.size + 1) hbz (by assumption); clear hbz
      try go_wp2_with fail
      clear hHeld
      refine hK.out _ _ (two_fours (by assumption) (by assumption)) (fun hHeld => ?_)
      clear hK K
      try simp only [lays]
      refine' tk 6 rfl (by kernel_rfl) (fun _ _ _ h => h) (by rfl) (by assumption) ?y39 ?r39
      case y39 => (intro w h; (try dsimp only at h); go_simp; (try with_reducible rfl))
      try simp only [lays]
      refine' tk 7 rfl (by kernel_rfl) (fun _ _ _ h => h) (by rfl) (by assumption) ?y40 ?r40
      case y40 => (intro w h; (try dsimp only at h); go_simp; (try with_reducible rfl))
      try simp only [lays]
      refine' tk 8 rfl (by kernel_rfl) (fun _ _ _ h => h) (by rfl) (by assumption) ?y41 ?r41
      case y41 => (intro w h; (try dsimp only at h); go_simp; (try with_reducible rfl))
      try simp only [lays]
      refine' tk 10 rfl (by kernel_rfl) (fun _ _ _ h => h) (by rfl) (by assumption) ?y42 ?r42
      case y42 => (intro w h; (try dsimp only at h); go_simp; (try with_reducible rfl))
      try simp only [lays]
      refine' tk 11 rfl (by kernel_rfl) (fun _ _ _ h => h) (by rfl) (by assumption) ?y43 ?r43
      case y43 => (intro w h; (try dsimp only at h); go_simp; (try with_reducible rfl))
      try simp only [lays]
      refine wpAnyH_ready (rs := [9]) (by kernel_rfl) (by simp) (AllReadyH.cons rfl (fun K hK => ?_) AllReadyH.nil)
      go_simp
      refine (hB.out _).mono ?_; rintro e wz ⟨rfl, hbz⟩; have Dz := chain hbz (by assumption); have Pz := keepFour (n := w.heap.size) hbz (by assumption); have Qz := keepFour (n := w.heap.size + 1) hbz (by assumption); clear hbz
      try go_wp2_with fail
      clear hHeld
      refine hK.out _ _ (two_fours (by assumption) (by assumption)) (fun hHeld => ?_)
      clear hK K
      try simp only [lays]
      refine wpAnyH_ready (rs := [12]) (by kernel_rfl) (by simp) (AllReadyH.cons rfl (fun K hK => ?_) AllReadyH.nil)
      go_simp
      refine (h1.out _).mono ?_; rintro e wz ⟨rfl, hbz⟩; have Dz := chain hbz (by assumption); have Pz := keepFour (n := w.heap.size) hbz (by assumption); have Qz := keepFour (n := w.heap.size + 1) hbz (by assumption); clear hbz
      try go_wp2_with fail
      clear hHeld
      refine hK.out _ _ (two_fours (by assumption) (by assumption)) (fun hHeld => ?_)
      clear hK K
      try simp only [lays]
      refine' tk 13 rfl (by kernel_rfl) (fun _ _ _ h => h) (by rfl) (by assumption) ?y46 ?r46
      case y46 => (intro w h; (try dsimp only at h); go_simp; (try with_reducible rfl))
      try simp only [lays]
      refine' tk 14 rfl (by kernel_rfl) (fun _ _ _ h => h) (by rfl) (by assumption) ?y47 ?r47
      case y47 => (intro w h; (try dsimp only at h); go_simp; (try with_reducible rfl))
      try simp only [lays]
      refine' tk0 15 rfl (by kernel_rfl) (fun _ _ _ h => h) (by rfl) (by assumption) ?_
      try simp only [lays]
      refine' tk0 16 rfl (by kernel_rfl) (fun _ _ _ h => h) (by rfl) (by assumption) ?_
      try simp only [lays]
      refine' tk0 17 rfl (by kernel_rfl) (fun _ _ _ h => h) (by rfl) (by assumption) ?_
      try simp only [lays]
      refine' tk0 18 rfl (by kernel_rfl) (fun _ _ _ h => h) (by rfl) (by assumption) ?_
      try simp only [lays]
      refine' tk0 19 rfl (by kernel_rfl) (fun _ _ _ h => h) (by rfl) (by assumption) ?_
      try simp only [lays]
      refine' tk0 20 rfl (by kernel_rfl) (fun _ _ _ h => h) (by rfl) (by assumption) ?_
      try simp only [lays]
      refine' tk 21 rfl (by kernel_rfl) (fun _ _ _ h => h) (by rfl) (by assumption) ?y54 ?r54
      case y54 => (intro w h; (try dsimp only at h); go_simp; (try with_reducible rfl))
      try simp only [lays]
      refine' tk 22 rfl (by kernel_rfl) (fun _ _ _ h => h) (by rfl) (by assumption) ?y55 ?r55
      case y55 => (intro w h; (try dsimp only at h); go_simp; (try with_reducible rfl))
      try simp only [lays]
      refine' tk0 23 rfl (by kernel_rfl) (fun _ _ _ h => h) (by rfl) (by assumption) ?_
      try simp only [lays]
      refine' tk0 24 rfl (by kernel_rfl) (fun _ _ _ h => h) (by rfl) (by assumption) ?_
      try simp only [lays]
      refine' tk0 25 rfl (by kernel_rfl) (fun _ _ _ h => h) (by rfl) (by assumption) ?_
      try simp only [lays]
      refine' tk0 26 rfl (by kernel_rfl) (fun _ _ _ h => h) (by rfl) (by assumption) ?_
      try simp only [lays]
      refine' tk0 27 rfl (by kernel_rfl) (fun _ _ _ h => h) (by rfl) (by assumption) ?_
      try simp only [lays]
      refine' tk0 28 rfl (by kernel_rfl) (fun _ _ _ h => h) (by rfl) (by assumption) ?_
      try simp only [lays]
      refine' tk 29 rfl (by kernel_rfl) (fun _ _ _ h => h) (by rfl) (by assumption) ?y62 ?r62
      case y62 => (intro w h; (try dsimp only at h); go_simp; (try with_reducible rfl))
      try simp only [lays]
      refine' tk 30 rfl (by kernel_rfl) (fun _ _ _ h => h) (by rfl) (by assumption) ?y63 ?r63
      case y63 => (intro w h; (try dsimp only at h); go_simp; (try with_reducible rfl))
      try simp only [lays]
      refine wpAnyH_done (by kernel_rfl) ?_ _
      go_wp2
      go_ret
      exact ⟨by simp, by assumption⟩
    · cases x2
      · go_enter Tryz.func117, Tryz.ntmps117
        go_wp2_with fail
        refine wp_region_held_drew (S := (fun w' => w'.cell? ⟨w.heap.size, 0, none⟩ = some (.int .u16 (a : Int)) ∧ w'.cell? ⟨w.heap.size, 1, none⟩ = some (.int .u16 (b : Int)) ∧ w'.cell? ⟨w.heap.size, 2, none⟩ = some (.int .u8 (c : Int)) ∧ w'.cell? ⟨w.heap.size, 3, none⟩ = some (.int .u8 (d : Int)) ∧ w'.cell? ⟨w.heap.size + 1, 0, none⟩ = some (.int .i64 p) ∧ w'.cell? ⟨w.heap.size + 1, 1, none⟩ = some (.int .i64 q) ∧ w'.cell? ⟨w.heap.size + 1, 2, none⟩ = some (.int .i64 r) ∧ w'.cell? ⟨w.heap.size + 1, 3, none⟩ = some (.int .i64 s))) (by kernel_rfl) (two_fours (by assumption) (by assumption)) (fun hHeld => ?_)
        refine' tk 0 rfl (by kernel_rfl) (fun _ _ _ h => h) (by rfl) (by assumption) ?y65 ?r65
        case y65 => (intro w h; (try dsimp only at h); go_simp; (try with_reducible rfl))
        try simp only [lays]
        refine' tk 1 rfl (by kernel_rfl) (fun _ _ _ h => h) (by rfl) (by assumption) ?y66 ?r66
        case y66 => (intro w h; (try dsimp only at h); go_simp; (try with_reducible rfl))
        try simp only [lays]
        refine' tk 3 rfl (by kernel_rfl) (fun _ _ _ h => h) (by rfl) (by assumption) ?y67 ?r67
        case y67 => (intro w h; (try dsimp only at h); go_simp; (try with_reducible rfl))
        try simp only [lays]
        refine' tk 4 rfl (by kernel_rfl) (fun _ _ _ h => h) (by rfl) (by assumption) ?y68 ?r68
        case y68 => (intro w h; (try dsimp only at h); go_simp; (try with_reducible rfl))
        try simp only [lays]
        refine wpAnyH_ready (rs := [2]) (by kernel_rfl) (by simp) (AllReadyH.cons rfl (fun K hK => ?_) AllReadyH.nil)
        go_simp
        refine (hA.out _).mono ?_; rintro e wz ⟨rfl, hbz⟩; have Dz := chain hbz (by assumption); have Pz := keepFour (n := w.heap.size) hbz (by assumption); have Qz := keepFour (n := w.heap.size + 1) hbz (by assumption); clear hbz
        try go_wp2_with fail
        clear hHeld
        refine hK.out _ _ (two_fours (by assumption) (by assumption)) (fun hHeld => ?_)
        clear hK K
        try simp only [lays]
        refine wpAnyH_ready (rs := [5]) (by kernel_rfl) (by simp) (AllReadyH.cons rfl (fun K hK => ?_) AllReadyH.nil)
        go_simp
        refine (h0.out _).mono ?_; rintro e wz ⟨rfl, hbz⟩; have Dz := chain hbz (by assumption); have Pz := keepFour (n := w.heap.size) hbz (by assumption); have Qz := keepFour (n := w.heap.size + 1) hbz (by assumption); clear hbz
        try go_wp2_with fail
        clear hHeld
        refine hK.out _ _ (two_fours (by assumption) (by assumption)) (fun hHeld => ?_)
        clear hK K
        try simp only [lays]
        refine' tk 6 rfl (by kernel_rfl) (fun _ _ _ h => h) (by rfl) (by assumption) ?y71 ?r71
        case y71 => (intro w h; (try dsimp only at h); go_simp; (try with_reducible rfl))
        try simp only [lays]
        refine' tk 7 rfl (by kernel_rfl) (fun _ _ _ h => h) (by rfl) (by assumption) ?y72 ?r72
        case y72 => (intro w h; (try dsimp only at h); go_simp; (try with_reducible rfl))
        try simp only [lays]
        refine' tk 8 rfl (by kernel_rfl) (fun _ _ _ h => h) (by rfl) (by assumption) ?y73 ?r73
        case y73 => (intro w h; (try dsimp only at h); go_simp; (try with_reducible rfl))
        try simp only [lays]
        refine' tk 10 rfl (by kernel_rfl) (fun _ _ _ h => h) (by rfl) (by assumption) ?y74 ?r74
        case y74 => (intro w h; (try dsimp only at h); go_simp; (try with_reducible rfl))
        try simp only [lays]
        refine' tk 11 rfl (by kernel_rfl) (fun _ _ _ h => h) (by rfl) (by assumption) ?y75 ?r75
        case y75 => (intro w h; (try dsimp only at h); go_simp; (try with_reducible rfl))
        try simp only [lays]
        refine wpAnyH_ready (rs := [9]) (by kernel_rfl) (by simp) (AllReadyH.cons rfl (fun K hK => ?_) AllReadyH.nil)
        go_simp
        refine (hB.out _).mono ?_; rintro e wz ⟨rfl, hbz⟩; have Dz := chain hbz (by assumption); have Pz := keepFour (n := w.heap.size) hbz (by assumption); have Qz := keepFour (n := w.heap.size + 1) hbz (by assumption); clear hbz
        try go_wp2_with fail
        clear hHeld
        refine hK.out _ _ (two_fours (by assumption) (by assumption)) (fun hHeld => ?_)
        clear hK K
        try simp only [lays]
        refine wpAnyH_ready (rs := [12]) (by kernel_rfl) (by simp) (AllReadyH.cons rfl (fun K hK => ?_) AllReadyH.nil)
        go_simp
        refine (h1.out _).mono ?_; rintro e wz ⟨rfl, hbz⟩; have Dz := chain hbz (by assumption); have Pz := keepFour (n := w.heap.size) hbz (by assumption); have Qz := keepFour (n := w.heap.size + 1) hbz (by assumption); clear hbz
        try go_wp2_with fail
        clear hHeld
        refine hK.out _ _ (two_fours (by assumption) (by assumption)) (fun hHeld => ?_)
        clear hK K
        try simp only [lays]
        refine' tk 13 rfl (by kernel_rfl) (fun _ _ _ h => h) (by rfl) (by assumption) ?y78 ?r78
        case y78 => (intro w h; (try dsimp only at h); go_simp; (try with_reducible rfl))
        try simp only [lays]
        refine' tk 14 rfl (by kernel_rfl) (fun _ _ _ h => h) (by rfl) (by assumption) ?y79 ?r79
        case y79 => (intro w h; (try dsimp only at h); go_simp; (try with_reducible rfl))
        try simp only [lays]
        refine' tk 15 rfl (by kernel_rfl) (fun _ _ _ h => h) (by rfl) (by assumption) ?y80 ?r80
        case y80 => (intro w h; (try dsimp only at h); go_simp; (try with_reducible rfl))
        try simp only [lays]
        refine' tk 16 rfl (by kernel_rfl) (fun _ _ _ h => h) (by rfl) (by assumption) ?y81 ?r81
        case y81 => (intro w h; (try dsimp only at h); go_simp; (try with_reducible rfl))
        try simp only [lays]
        refine' tk 18 rfl (by kernel_rfl) (fun _ _ _ h => h) (by rfl) (by assumption) ?y82 ?r82
        case y82 => (intro w h; (try dsimp only at h); go_simp; (try with_reducible rfl))
        try simp only [lays]
        refine' tk 19 rfl (by kernel_rfl) (fun _ _ _ h => h) (by rfl) (by assumption) ?y83 ?r83
        case y83 => (intro w h; (try dsimp only at h); go_simp; (try with_reducible rfl))
        try simp only [lays]
        refine wpAnyH_ready (rs := [17]) (by kernel_rfl) (by simp) (AllReadyH.cons rfl (fun K hK => ?_) AllReadyH.nil)
        go_simp
        refine (hC.out _).mono ?_; rintro e wz ⟨rfl, hbz⟩; have Dz := chain hbz (by assumption); have Pz := keepFour (n := w.heap.size) hbz (by assumption); have Qz := keepFour (n := w.heap.size + 1) hbz (by assumption); clear hbz
        try go_wp2_with fail
        clear hHeld
        refine hK.out _ _ (two_fours (by assumption) (by assumption)) (fun hHeld => ?_)
        clear hK K
        try simp only [lays]
        refine wpAnyH_ready (rs := [20]) (by kernel_rfl) (by simp) (AllReadyH.cons rfl (fun K hK => ?_) AllReadyH.nil)
        go_simp
        refine (h2.out _).mono ?_; rintro e wz ⟨rfl, hbz⟩; have Dz := chain hbz (by assumption); have Pz := keepFour (n := w.heap.size) hbz (by assumption); have Qz := keepFour (n := w.heap.size + 1) hbz (by assumption); clear hbz
        try go_wp2_with fail
        clear hHeld
        refine hK.out _ _ (two_fours (by assumption) (by assumption)) (fun hHeld => ?_)
        clear hK K
        try simp only [lays]
        refine' tk 21 rfl (by kernel_rfl) (fun _ _ _ h => h) (by rfl) (by assumption) ?y86 ?r86
        case y86 => (intro w h; (try dsimp only at h); go_simp; (try with_reducible rfl))
        try simp only [lays]
        refine' tk 22 rfl (by kernel_rfl) (fun _ _ _ h => h) (by rfl) (by assumption) ?y87 ?r87
        case y87 => (intro w h; (try dsimp only at h); go_simp; (try with_reducible rfl))
        try simp only [lays]
        refine' tk0 23 rfl (by kernel_rfl) (fun _ _ _ h => h) (by rfl) (by assumption) ?_
        try simp only [lays]
        refine' tk0 24 rfl (by kernel_rfl) (fun _ _ _ h => h) (by rfl) (by assumption) ?_
        try simp only [lays]
        refine' tk0 25 rfl (by kernel_rfl) (fun _ _ _ h => h) (by rfl) (by assumption) ?_
        try simp only [lays]
        refine' tk0 26 rfl (by kernel_rfl) (fun _ _ _ h => h) (by rfl) (by assumption) ?_
        try simp only [lays]
        refine' tk0 27 rfl (by kernel_rfl) (fun _ _ _ h => h) (by rfl) (by assumption) ?_
        try simp only [lays]
        refine' tk0 28 rfl (by kernel_rfl) (fun _ _ _ h => h) (by rfl) (by assumption) ?_
        try simp only [lays]
        refine' tk 29 rfl (by kernel_rfl) (fun _ _ _ h => h) (by rfl) (by assumption) ?y94 ?r94
        case y94 => (intro w h; (try dsimp only at h); go_simp; (try with_reducible rfl))
        try simp only [lays]
        refine' tk 30 rfl (by kernel_rfl) (fun _ _ _ h => h) (by rfl) (by assumption) ?y95 ?r95
        case y95 => (intro w h; (try dsimp only at h); go_simp; (try with_reducible rfl))
        try simp only [lays]
        refine wpAnyH_done (by kernel_rfl) ?_ _
        go_wp2
        go_ret
        exact ⟨by simp, by assumption⟩
      · go_enter Tryz.func117, Tryz.ntmps117
        go_wp2_with fail
        refine wp_region_held_drew (S := (fun w' => w'.cell? ⟨w.heap.size, 0, none⟩ = some (.int .u16 (a : Int)) ∧ w'.cell? ⟨w.heap.size, 1, none⟩ = some (.int .u16 (b : Int)) ∧ w'.cell? ⟨w.heap.size, 2, none⟩ = some (.int .u8 (c : Int)) ∧ w'.cell? ⟨w.heap.size, 3, none⟩ = some (.int .u8 (d : Int)) ∧ w'.cell? ⟨w.heap.size + 1, 0, none⟩ = some (.int .i64 p) ∧ w'.cell? ⟨w.heap.size + 1, 1, none⟩ = some (.int .i64 q) ∧ w'.cell? ⟨w.heap.size + 1, 2, none⟩ = some (.int .i64 r) ∧ w'.cell? ⟨w.heap.size + 1, 3, none⟩ = some (.int .i64 s))) (by kernel_rfl) (two_fours (by assumption) (by assumption)) (fun hHeld => ?_)
        refine' tk 0 rfl (by kernel_rfl) (fun _ _ _ h => h) (by rfl) (by assumption) ?y97 ?r97
        case y97 => (intro w h; (try dsimp only at h); go_simp; (try with_reducible rfl))
        try simp only [lays]
        refine' tk 1 rfl (by kernel_rfl) (fun _ _ _ h => h) (by rfl) (by assumption) ?y98 ?r98
        case y98 => (intro w h; (try dsimp only at h); go_simp; (try with_reducible rfl))
        try simp only [lays]
        refine' tk 3 rfl (by kernel_rfl) (fun _ _ _ h => h) (by rfl) (by assumption) ?y99 ?r99
        case y99 => (intro w h; (try dsimp only at h); go_simp; (try with_reducible rfl))
        try simp only [lays]
        refine' tk 4 rfl (by kernel_rfl) (fun _ _ _ h => h) (by rfl) (by assumption) ?y100 ?r100
        case y100 => (intro w h; (try dsimp only at h); go_simp; (try with_reducible rfl))
        try simp only [lays]
        refine wpAnyH_ready (rs := [2]) (by kernel_rfl) (by simp) (AllReadyH.cons rfl (fun K hK => ?_) AllReadyH.nil)
        go_simp
        refine (hA.out _).mono ?_; rintro e wz ⟨rfl, hbz⟩; have Dz := chain hbz (by assumption); have Pz := keepFour (n := w.heap.size) hbz (by assumption); have Qz := keepFour (n := w.heap.size + 1) hbz (by assumption); clear hbz
        try go_wp2_with fail
        clear hHeld
        refine hK.out _ _ (two_fours (by assumption) (by assumption)) (fun hHeld => ?_)
        clear hK K
        try simp only [lays]
        refine wpAnyH_ready (rs := [5]) (by kernel_rfl) (by simp) (AllReadyH.cons rfl (fun K hK => ?_) AllReadyH.nil)
        go_simp
        refine (h0.out _).mono ?_; rintro e wz ⟨rfl, hbz⟩; have Dz := chain hbz (by assumption); have Pz := keepFour (n := w.heap.size) hbz (by assumption); have Qz := keepFour (n := w.heap.size + 1) hbz (by assumption); clear hbz
        try go_wp2_with fail
        clear hHeld
        refine hK.out _ _ (two_fours (by assumption) (by assumption)) (fun hHeld => ?_)
        clear hK K
        try simp only [lays]
        refine' tk 6 rfl (by kernel_rfl) (fun _ _ _ h => h) (by rfl) (by assumption) ?y103 ?r103
        case y103 => (intro w h; (try dsimp only at h); go_simp; (try with_reducible rfl))
        try simp only [lays]
        refine' tk 7 rfl (by kernel_rfl) (fun _ _ _ h => h) (by rfl) (by assumption) ?y104 ?r104
        case y104 => (intro w h; (try dsimp only at h); go_simp; (try with_reducible rfl))
        try simp only [lays]
        refine' tk 8 rfl (by kernel_rfl) (fun _ _ _ h => h) (by rfl) (by assumption) ?y105 ?r105
        case y105 => (intro w h; (try dsimp only at h); go_simp; (try with_reducible rfl))
        try simp only [lays]
        refine' tk 10 rfl (by kernel_rfl) (fun _ _ _ h => h) (by rfl) (by assumption) ?y106 ?r106
        case y106 => (intro w h; (try dsimp only at h); go_simp; (try with_reducible rfl))
        try simp only [lays]
        refine' tk 11 rfl (by kernel_rfl) (fun _ _ _ h => h) (by rfl) (by assumption) ?y107 ?r107
        case y107 => (intro w h; (try dsimp only at h); go_simp; (try with_reducible rfl))
        try simp only [lays]
        refine wpAnyH_ready (rs := [9]) (by kernel_rfl) (by simp) (AllReadyH.cons rfl (fun K hK => ?_) AllReadyH.nil)
        go_simp
        refine (hB.out _).mono ?_; rintro e wz ⟨rfl, hbz⟩; have Dz := chain hbz (by assumption); have Pz := keepFour (n := w.heap.size) hbz (by assumption); have Qz := keepFour (n := w.heap.size + 1) hbz (by assumption); clear hbz
        try go_wp2_with fail
        clear hHeld
        refine hK.out _ _ (two_fours (by assumption) (by assumption)) (fun hHeld => ?_)
        clear hK K
        try simp only [lays]
        refine wpAnyH_ready (rs := [12]) (by kernel_rfl) (by simp) (AllReadyH.cons rfl (fun K hK => ?_) AllReadyH.nil)
        go_simp
        refine (h1.out _).mono ?_; rintro e wz ⟨rfl, hbz⟩; have Dz := chain hbz (by assumption); have Pz := keepFour (n := w.heap.size) hbz (by assumption); have Qz := keepFour (n := w.heap.size + 1) hbz (by assumption); clear hbz
        try go_wp2_with fail
        clear hHeld
        refine hK.out _ _ (two_fours (by assumption) (by assumption)) (fun hHeld => ?_)
        clear hK K
        try simp only [lays]
        refine' tk 13 rfl (by kernel_rfl) (fun _ _ _ h => h) (by rfl) (by assumption) ?y110 ?r110
        case y110 => (intro w h; (try dsimp only at h); go_simp; (try with_reducible rfl))
        try simp only [lays]
        refine' tk 14 rfl (by kernel_rfl) (fun _ _ _ h => h) (by rfl) (by assumption) ?y111 ?r111
        case y111 => (intro w h; (try dsimp only at h); go_simp; (try with_reducible rfl))
        try simp only [lays]
        refine' tk 15 rfl (by kernel_rfl) (fun _ _ _ h => h) (by rfl) (by assumption) ?y112 ?r112
        case y112 => (intro w h; (try dsimp only at h); go_simp; (try with_reducible rfl))
        try simp only [lays]
        refine' tk 16 rfl (by kernel_rfl) (fun _ _ _ h => h) (by rfl) (by assumption) ?y113 ?r113
        case y113 => (intro w h; (try dsimp only at h); go_simp; (try with_reducible rfl))
        try simp only [lays]
        refine' tk 18 rfl (by kernel_rfl) (fun _ _ _ h => h) (by rfl) (by assumption) ?y114 ?r114
        case y114 => (intro w h; (try dsimp only at h); go_simp; (try with_reducible rfl))
        try simp only [lays]
        refine' tk 19 rfl (by kernel_rfl) (fun _ _ _ h => h) (by rfl) (by assumption) ?y115 ?r115
        case y115 => (intro w h; (try dsimp only at h); go_simp; (try with_reducible rfl))
        try simp only [lays]
        refine wpAnyH_ready (rs := [17]) (by kernel_rfl) (by simp) (AllReadyH.cons rfl (fun K hK => ?_) AllReadyH.nil)
        go_simp
        refine (hC.out _).mono ?_; rintro e wz ⟨rfl, hbz⟩; have Dz := chain hbz (by assumption); have Pz := keepFour (n := w.heap.size) hbz (by assumption); have Qz := keepFour (n := w.heap.size + 1) hbz (by assumption); clear hbz
        try go_wp2_with fail
        clear hHeld
        refine hK.out _ _ (two_fours (by assumption) (by assumption)) (fun hHeld => ?_)
        clear hK K
        try simp only [lays]
        refine wpAnyH_ready (rs := [20]) (by kernel_rfl) (by simp) (AllReadyH.cons rfl (fun K hK => ?_) AllReadyH.nil)
        go_simp
        refine (h2.out _).mono ?_; rintro e wz ⟨rfl, hbz⟩; have Dz := chain hbz (by assumption); have Pz := keepFour (n := w.heap.size) hbz (by assumption); have Qz := keepFour (n := w.heap.size + 1) hbz (by assumption); clear hbz
        try go_wp2_with fail
        clear hHeld
        refine hK.out _ _ (two_fours (by assumption) (by assumption)) (fun hHeld => ?_)
        clear hK K
        try simp only [lays]
        refine' tk 21 rfl (by kernel_rfl) (fun _ _ _ h => h) (by rfl) (by assumption) ?y118 ?r118
        case y118 => (intro w h; (try dsimp only at h); go_simp; (try with_reducible rfl))
        try simp only [lays]
        refine' tk 22 rfl (by kernel_rfl) (fun _ _ _ h => h) (by rfl) (by assumption) ?y119 ?r119
        case y119 => (intro w h; (try dsimp only at h); go_simp; (try with_reducible rfl))
        try simp only [lays]
        refine' tk 23 rfl (by kernel_rfl) (fun _ _ _ h => h) (by rfl) (by assumption) ?y120 ?r120
        case y120 => (intro w h; (try dsimp only at h); go_simp; (try with_reducible rfl))
        try simp only [lays]
        refine' tk 24 rfl (by kernel_rfl) (fun _ _ _ h => h) (by rfl) (by assumption) ?y121 ?r121
        case y121 => (intro w h; (try dsimp only at h); go_simp; (try with_reducible rfl))
        try simp only [lays]
        refine' tk 26 rfl (by kernel_rfl) (fun _ _ _ h => h) (by rfl) (by assumption) ?y122 ?r122
        case y122 => (intro w h; (try dsimp only at h); go_simp; (try with_reducible rfl))
        try simp only [lays]
        refine' tk 27 rfl (by kernel_rfl) (fun _ _ _ h => h) (by rfl) (by assumption) ?y123 ?r123
        case y123 => (intro w h; (try dsimp only at h); go_simp; (try with_reducible rfl))
        try simp only [lays]
        refine wpAnyH_ready (rs := [25]) (by kernel_rfl) (by simp) (AllReadyH.cons rfl (fun K hK => ?_) AllReadyH.nil)
        go_simp
        refine (hD.out _).mono ?_; rintro e wz ⟨rfl, hbz⟩; have Dz := chain hbz (by assumption); have Pz := keepFour (n := w.heap.size) hbz (by assumption); have Qz := keepFour (n := w.heap.size + 1) hbz (by assumption); clear hbz
        try go_wp2_with fail
        clear hHeld
        refine hK.out _ _ (two_fours (by assumption) (by assumption)) (fun hHeld => ?_)
        clear hK K
        try simp only [lays]
        refine wpAnyH_ready (rs := [28]) (by kernel_rfl) (by simp) (AllReadyH.cons rfl (fun K hK => ?_) AllReadyH.nil)
        go_simp
        refine (h3.out _).mono ?_; rintro e wz ⟨rfl, hbz⟩; have Dz := chain hbz (by assumption); have Pz := keepFour (n := w.heap.size) hbz (by assumption); have Qz := keepFour (n := w.heap.size + 1) hbz (by assumption); clear hbz
        try go_wp2_with fail
        clear hHeld
        refine hK.out _ _ (two_fours (by assumption) (by assumption)) (fun hHeld => ?_)
        clear hK K
        try simp only [lays]
        refine' tk 29 rfl (by kernel_rfl) (fun _ _ _ h => h) (by rfl) (by assumption) ?y126 ?r126
        case y126 => (intro w h; (try dsimp only at h); go_simp; (try with_reducible rfl))
        try simp only [lays]
        refine' tk 30 rfl (by kernel_rfl) (fun _ _ _ h => h) (by rfl) (by assumption) ?y127 ?r127
        case y127 => (intro w h; (try dsimp only at h); go_simp; (try with_reducible rfl))
        try simp only [lays]
        refine wpAnyH_done (by kernel_rfl) ?_ _
        go_wp2
        go_ret
        exact ⟨by simp, by assumption⟩
end Go.Proofs.YtgmjlkllghlmmaaGreat
