/-
  What a set of numbers has, and what a match has: package match's calls addrs, ports, has, In and All.
-/
import Derived.Test.YtlmmeppifkigeaaGreatLy
import Derived.Test.YtlmmeppifkigeaaGreatProg
import Derived.WalkKit
import Derived.WalkSpells
import Derived.WalkLawsBesides
import Derived.Handy
import Derived.BigQuiet
import Derived.Deep.QuietTactic
import Derived.Deep.RegionHeld3
import Derived.Deep.DeepCutAuto
import Derived.Laws.AppendOwn
import Derived.RangeFuncNested
import Derived.RangeFuncBound
import Derived.RangeFuncCalls
import Derived.RangeFuncLeaves
import Derived.Shelf.Abstract
import Derived.Shelf.RegionOpen
import Derived.OwnWalkIn
import Derived.TacticsInMore
import Derived.LoopNIn
import Derived.LoopIn
import Derived.Test.YtlmmeppifkigeaaGreatXAB
namespace Go.Proofs.YtlmmeppifkigeaaGreat
open Go.RowKit

/-- A set: its bits, its size. -/
abbrev st (b n : Int) : Value := .agg #[.int .i64 b, .int .i64 n]
/-- A match. -/
abbrev mt (a b c d : Nat) : Value := .agg #[.int .u16 (a : Int), .int .u16 (b : Int), .int .u8 (c : Int), .int .u8 (d : Int)]
abbrev pk (a b c d : Int) : Value := .agg #[.int .i64 a, .int .i64 b, .int .i64 c, .int .i64 d]
/-- Is a number in a set? -/
def hasB (b : Nat) (n : Int) : Bool := decide (0 ≤ n) && b.testBit n.toNat

theorem chain {W0 W w' : World} (hb : Below W.heap.size W w') (h : Below W0.heap.size W0 W) : Below W0.heap.size W0 w' := h.trans (hb.mono h.size)
theorem Below.alloc' {W0 w : World} (h : Below W0.heap.size W0 w) (o : Obj) : Below W0.heap.size W0 (w.alloc o) := h.alloc h.size o

/-- Four cells lie in a block of their own. -/
def Four (w : World) (n : Nat) (a b c d : Value) : Prop :=
  n < w.heap.size ∧ w.cell? ⟨n, 0, none⟩ = some a ∧ w.cell? ⟨n, 1, none⟩ = some b ∧ w.cell? ⟨n, 2, none⟩ = some c ∧ w.cell? ⟨n, 3, none⟩ = some d
theorem keepFour {W w' : World} {n : Nat} {a b c d : Value} (hb : Below W.heap.size W w') (h : Four W n a b c d) : Four w' n a b c d := by
  obtain ⟨h0, h1, h2, h3, h4⟩ := h
  exact ⟨Nat.lt_of_lt_of_le h0 hb.size, (hb.cell (p := ⟨n, 0, none⟩) h0).trans h1, (hb.cell (p := ⟨n, 1, none⟩) h0).trans h2, (hb.cell (p := ⟨n, 2, none⟩) h0).trans h3, (hb.cell (p := ⟨n, 3, none⟩) h0).trans h4⟩
theorem Four.drew {w : World} {n : Nat} {a b c d : Value} (h : Four w n a b c d) : Four w.drew n a b c d := h
theorem four_new (w : World) (a b c d : Value) (t : TypeId) : Four (w.alloc (.cells #[a, b, c, d] t)) w.heap.size a b c d :=
  ⟨by simp, by simp [go_sem], by simp [go_sem], by simp [go_sem], by simp [go_sem]⟩
theorem allocFour {w : World} {n : Nat} {a b c d : Value} (h : Four w n a b c d) (o : Obj) : Four (w.alloc o) n a b c d := keepFour ((Below.refl _ _).alloc (Nat.le_refl _) o) h
theorem two_fours {w' : World} {n1 n2 : Nat} {a1 b1 c1 d1 a2 b2 c2 d2 : Value} (h1 : Four w' n1 a1 b1 c1 d1) (h2 : Four w' n2 a2 b2 c2 d2) :
    w'.cell? ⟨n1, 0, none⟩ = some a1 ∧ w'.cell? ⟨n1, 1, none⟩ = some b1 ∧ w'.cell? ⟨n1, 2, none⟩ = some c1 ∧ w'.cell? ⟨n1, 3, none⟩ = some d1 ∧
    w'.cell? ⟨n2, 0, none⟩ = some a2 ∧ w'.cell? ⟨n2, 1, none⟩ = some b2 ∧ w'.cell? ⟨n2, 2, none⟩ = some c2 ∧ w'.cell? ⟨n2, 3, none⟩ = some d2 :=
  ⟨h1.2.1, h1.2.2.1, h1.2.2.2.1, h1.2.2.2.2, h2.2.1, h2.2.2.1, h2.2.2.2.1, h2.2.2.2.2⟩

theorem addrs_any (b : Nat) (w : World) (h1 : b < 65536) :
    Calls Tryz.prog 89 #[.int .u16 (b : Int)] w fun e w' => e = .returned (st b 16) ∧ Below w.heap.size w w' := by
  go_enter Tryz.func89, Tryz.ntmps89
  go_wp2_with fail
  exact bodyPost_ret (v := st b 16) (by simp [results, Tryz.results89, go_sem]) rfl ⟨rfl, by go_grown⟩
theorem ports_any (b : Nat) (w : World) (h1 : b < 256) :
    Calls Tryz.prog 87 #[.int .u8 (b : Int)] w fun e w' => e = .returned (st b 8) ∧ Below w.heap.size w w' := by
  go_enter Tryz.func87, Tryz.ntmps87
  go_wp2_with fail
  exact bodyPost_ret (v := st b 8) (by simp [results, Tryz.results87, go_sem]) rfl ⟨rfl, by go_grown⟩
theorem shr_any (b n : Nat) (hb : b < 2 ^ 62) : Op.shift .shr .i64 (b : Int) .i64 (n : Int) = (pure (.int .i64 ((b >>> n : Nat) : Int)) : Sem Value) := by
  by_cases h : n ≤ 64
  · rw [shift_shr _ _ _ _ (by omega) (by show (n : Int) ≤ 64; omega), Nat.shiftRight_eq_div_pow, Int.toNat_natCast]
    simp
  · have hp : 2 ^ 64 ≤ 2 ^ n := Nat.pow_le_pow_right (by omega) (by omega)
    have e : b >>> n = 0 := by rw [Nat.shiftRight_eq_div_pow, Nat.div_eq_of_lt (by omega)]
    have hm : min n IntKind.i64.bits = 64 := by show min n 64 = 64; omega
    have hf : (b : Int).fdiv (2 ^ 64) = 0 := by
      rw [Int.fdiv_eq_ediv_of_nonneg _ (by decide), Int.ediv_eq_zero_of_lt (by omega) (by omega)]
    rw [e]
    simp only [Op.shift, Int.toNat_natCast, hm, hf]
    rw [if_neg (by omega)]
    rfl
theorem bits_one (q : Nat) (hq : q < 2 ^ 62) : (Go.bits .and .i64 (q : Int) 1 == 1) = (q % 2 == 1) := by
  have e1 : BitVec.ofInt 64 (q : Int) = BitVec.ofNat 64 q := by simp
  have hm : (BitVec.ofNat 64 q &&& BitVec.ofInt 64 1).toNat = q % 2 := by
    rw [show BitVec.ofInt 64 1 = BitVec.ofNat 64 1 by rfl, BitVec.toNat_and, BitVec.toNat_ofNat, BitVec.toNat_ofNat, Nat.mod_eq_of_lt (show q < 2 ^ 64 by omega)]
    exact Nat.and_one_is_mod q
  have e2 : Go.bits .and .i64 (q : Int) 1 = ((q % 2 : Nat) : Int) := by
    show IntKind.i64.wrap ((BitVec.ofInt 64 (q : Int) &&& BitVec.ofInt 64 1).toNat : Int) = _
    rw [e1, hm, IntWalk.i64_in _ (by omega)]
  rw [e2]
  have : q % 2 = 0 ∨ q % 2 = 1 := by omega
  rcases this with h | h <;> rw [h] <;> rfl

set_option maxHeartbeats 400000 in
theorem has_any (b : Nat) (n z : Int) (w : World) (h1 : b < 65536) :
    Calls Tryz.prog 113 #[st b z, .int .i64 n] w fun e w' => e = .returned (.bool (hasB b n)) ∧ Below w.heap.size w w' := by
  by_cases hn : 0 ≤ n
  · obtain ⟨k, rfl⟩ : ∃ k : Nat, n = k := ⟨n.toNat, by omega⟩
    have t : decide (0 ≤ (k : Int)) = true := by simp
    have hs := shr_any b k (by omega)
    have hle : b >>> k ≤ b := by rw [Nat.shiftRight_eq_div_pow]; exact Nat.div_le_self _ _
    have he : Hid ((Go.bits .and .i64 ((b >>> k : Nat) : Int) 1 == 1) = hasB b k) := by
      show _ = _
      rw [bits_one _ (by omega), hasB, t, Bool.true_and, Int.toNat_natCast, Nat.testBit, Nat.one_and_eq_mod_two]
      have : (b >>> k) % 2 = 0 ∨ (b >>> k) % 2 = 1 := by omega
      rcases this with h | h <;> rw [h] <;> rfl
    clear hn hle
    generalize b >>> k = q at *
    go_enter Tryz.func113, Tryz.ntmps113
    go_wp2_with fail
    go_ret
    refine ⟨?_, by go_grown⟩
    rw [← he.out]
    simp
  · have t : decide (0 ≤ n) = false := by simp; omega
    have e : hasB b n = false := by unfold hasB; rw [t, Bool.false_and]
    rw [e]
    go_enter Tryz.func113, Tryz.ntmps113
    go_wp2_with fail
    go_ret
    exact ⟨rfl, by go_grown⟩

set_option maxHeartbeats 4000000 in
set_option maxRecDepth 100000 in
theorem in_case (a b c d : Nat) (p q r s : Int) (w : World) (x0 x1 x2 x3 : Bool)
    (hA : Hid (∀ w, Calls Tryz.prog 89 #[.int .u16 (a : Int)] w fun e w' => e = .returned (st a 16) ∧ Below w.heap.size w w'))
    (hB : Hid (∀ w, Calls Tryz.prog 89 #[.int .u16 (b : Int)] w fun e w' => e = .returned (st b 16) ∧ Below w.heap.size w w'))
    (hC : Hid (∀ w, Calls Tryz.prog 87 #[.int .u8 (c : Int)] w fun e w' => e = .returned (st c 8) ∧ Below w.heap.size w w'))
    (hD : Hid (∀ w, Calls Tryz.prog 87 #[.int .u8 (d : Int)] w fun e w' => e = .returned (st d 8) ∧ Below w.heap.size w w'))
    (h0 : Hid (∀ w, Calls Tryz.prog 113 #[st a 16, .int .i64 p] w fun e w' => e = .returned (.bool x0) ∧ Below w.heap.size w w'))
    (h1 : Hid (∀ w, Calls Tryz.prog 113 #[st b 16, .int .i64 q] w fun e w' => e = .returned (.bool x1) ∧ Below w.heap.size w w'))
    (h2 : Hid (∀ w, Calls Tryz.prog 113 #[st c 8, .int .i64 r] w fun e w' => e = .returned (.bool x2) ∧ Below w.heap.size w w'))
    (h3 : Hid (∀ w, Calls Tryz.prog 113 #[st d 8, .int .i64 s] w fun e w' => e = .returned (.bool x3) ∧ Below w.heap.size w w')) :
    Calls Tryz.prog 172 #[mt a b c d, pk p q r s] w fun e w' => e = .returned (.bool (x0 && x1 && x2 && x3)) ∧ Below w.heap.size w w' := by
  have F1 := (allocFour (four_new w (.int .u16 (a : Int)) (.int .u16 (b : Int)) (.int .u8 (c : Int)) (.int .u8 (d : Int)) 50) (.cells #[.int .i64 p, .int .i64 q, .int .i64 r, .int .i64 s] 36)).drew
  have F2 := (four_new (w.alloc (.cells #[.int .u16 (a : Int), .int .u16 (b : Int), .int .u8 (c : Int), .int .u8 (d : Int)] 50)) (.int .i64 p) (.int .i64 q) (.int .i64 r) (.int .i64 s) 36).drew
  have D1 := (Below.alloc' (Below.alloc' (Below.refl w.heap.size w) (.cells #[.int .u16 (a : Int), .int .u16 (b : Int), .int .u8 (c : Int), .int .u8 (d : Int)] 50)) (.cells #[.int .i64 p, .int .i64 q, .int .i64 r, .int .i64 s] 36)).drew
  rw [show (w.alloc (.cells #[.int .u16 (a : Int), .int .u16 (b : Int), .int .u8 (c : Int), .int .u8 (d : Int)] 50)).heap.size = w.heap.size + 1 by simp] at F2
  cases x0
  · go_enter Tryz.func172, Tryz.ntmps172
    go_wp2_with fail
    refine wp_region_held_drew (S := (fun w' => w'.cell? ⟨w.heap.size, 0, none⟩ = some (.int .u16 (a : Int)) ∧ w'.cell? ⟨w.heap.size, 1, none⟩ = some (.int .u16 (b : Int)) ∧ w'.cell? ⟨w.heap.size, 2, none⟩ = some (.int .u8 (c : Int)) ∧ w'.cell? ⟨w.heap.size, 3, none⟩ = some (.int .u8 (d : Int)) ∧ w'.cell? ⟨w.heap.size + 1, 0, none⟩ = some (.int .i64 p) ∧ w'.cell? ⟨w.heap.size + 1, 1, none⟩ = some (.int .i64 q) ∧ w'.cell? ⟨w.heap.size + 1, 2, none⟩ = some (.int .i64 r) ∧ w'.cell? ⟨w.heap.size + 1, 3, none⟩ = some (.int .i64 s))) (by kernel_rfl) (two_fours (by assumption) (by assumption)) (fun hHeld => ?_)
    refine' tk 0 rfl (by kernel_rfl) (fun _ _ _ h => h) (by rfl) (by assumption) ?y1 ?r1
    case y1 => (intro w h; (try dsimp only at h); go_simp; (try with_reducible rfl))
    try simp only [lays]
    refine' tk 1 rfl (by kernel_rfl) (fun _ _ _ h => h) (by rfl) (by assumption) ?y2 ?r2
    case y2 => (intro w h; (try dsimp only at h); go_simp; (try with_reducible rfl))
    try simp only [lays]
    refine' tk 3 rfl (by kernel_rfl) (fun _ _ _ h => h) (by rfl) (by assumption) ?y3 ?r3
    case y3 => (intro w h; (try dsimp only at h); go_simp; (try with_reducible rfl))
    try simp only [lays]
    refine' tk 4 rfl (by kernel_rfl) (fun _ _ _ h => h) (by rfl) (by assumption) ?y4 ?r4
    case y4 => (intro w h; (try dsimp only at h); go_simp; (try with_reducible rfl))
    try simp only [lays]
    refine wpAnyH_ready (rs := [2]) (by kernel_rfl) (by simp) (AllReadyH.cons rfl (fun K hK => ?_) AllReadyH.nil)
    go_simp
    refine (hA.out _).mono ?_; rintro e wz ⟨rfl, hbz⟩; have Dz := chain hbz (by assumption); have Pz := keepFour (n := w.heap.size) hbz (by assumption); have Qz := keepFour (n := w.heap.size + 1) hbz (by assumption); clear hbz
    try go_wp2_with fail
    clear hHeld
    refine hK.out _ _ (two_fours (by assumption) (by assumption)) (fun hHeld => ?_)
    clear hK K
    try simp only [lays]
    refine wpAnyH_ready (rs := [5]) (by kernel_rfl) (by simp) (AllReadyH.cons rfl (fun K hK => ?_) AllReadyH.nil)
    go_simp
    refine (h0.out _).mono ?_; rintro e wz ⟨rfl, hbz⟩; have Dz := chain hbz (by assumption); have Pz := keepFour (n := w.heap.size) hbz (by assumption); have Qz := keepFour (n := w.heap.size + 1) hbz (by assumption); clear hbz
    try go_wp2_with fail
    clear hHeld
    refine hK.out _ _ (two_fours (by assumption) (by assumption)) (fun hHeld => ?_)
    clear hK K
    try simp only [lays]
    refine' tk 6 rfl (by kernel_rfl) (fun _ _ _ h => h) (by rfl) (by assumption) ?y7 ?r7
    case y7 => (intro w h; (try dsimp only at h); go_simp; (try with_reducible rfl))
    try simp only [lays]
    refine' tk0 7 rfl (by kernel_rfl) (fun _ _ _ h => h) (by rfl) (by assumption) ?_
    try simp only [lays]
    refine' tk0 8 rfl (by kernel_rfl) (fun _ _ _ h => h) (by rfl) (by assumption) ?_
    try simp only [lays]
    refine' tk0 9 rfl (by kernel_rfl) (fun _ _ _ h => h) (by rfl) (by assumption) ?_
    try simp only [lays]
    refine' tk0 10 rfl (by kernel_rfl) (fun _ _ _ h => h) (by rfl) (by assumption) ?_
    try simp only [lays]
    refine' tk0 11 rfl (by kernel_rfl) (fun _ _ _ h => h) (by rfl) (by assumption) ?_
    try simp only [lays]
    refine' tk0 12 rfl (by kernel_rfl) (fun _ _ _ h => h) (by rfl) (by assumption) ?_
    try simp only [lays]
    refine' tk 13 rfl (by kernel_rfl) (fun _ _ _ h => h) (by rfl) (by assumption) ?y14 ?r14
    case y14 => (intro w h; (try dsimp only at h); go_simp; (try with_reducible rfl))
    try simp only [lays]
    refine' tk 14 rfl (by kernel_rfl) (fun _ _ _ h => h) (by rfl) (by assumption) ?y15 ?r15
    case y15 => (intro w h; (try dsimp only at h); go_simp; (try with_reducible rfl))
    try simp only [lays]
    refine' tk0 15 rfl (by kernel_rfl) (fun _ _ _ h => h) (by rfl) (by assumption) ?_
    try simp only [lays]
    refine' tk0 16 rfl (by kernel_rfl) (fun _ _ _ h => h) (by rfl) (by assumption) ?_
    try simp only [lays]
    refine' tk0 17 rfl (by kernel_rfl) (fun _ _ _ h => h) (by rfl) (by assumption) ?_
    try simp only [lays]
    refine' tk0 18 rfl (by kernel_rfl) (fun _ _ _ h => h) (by rfl) (by assumption) ?_
    try simp only [lays]
    refine' tk0 19 rfl (by kernel_rfl) (fun _ _ _ h => h) (by rfl) (by assumption) ?_
    try simp only [lays]
    refine' tk0 20 rfl (by kernel_rfl) (fun _ _ _ h => h) (by rfl) (by assumption) ?_
    try simp only [lays]
    refine' tk 21 rfl (by kernel_rfl) (fun _ _ _ h => h) (by rfl) (by assumption) ?y22 ?r22
    case y22 => (intro w h; (try dsimp only at h); go_simp; (try with_reducible rfl))
    try simp only [lays]
    refine' tk 22 rfl (by kernel_rfl) (fun _ _ _ h => h) (by rfl) (by assumption) ?y23 ?r23
    case y23 => (intro w h; (try dsimp only at h); go_simp; (try with_reducible rfl))
    try simp only [lays]
    refine' tk0 23 rfl (by kernel_rfl) (fun _ _ _ h => h) (by rfl) (by assumption) ?_
    try simp only [lays]
    refine' tk0 24 rfl (by kernel_rfl) (fun _ _ _ h => h) (by rfl) (by assumption) ?_
    try simp only [lays]
    refine' tk0 25 rfl (by kernel_rfl) (fun _ _ _ h => h) (by rfl) (by assumption) ?_
    try simp only [lays]
    refine' tk0 26 rfl (by kernel_rfl) (fun _ _ _ h => h) (by rfl) (by assumption) ?_
    try simp only [lays]
    refine' tk0 27 rfl (by kernel_rfl) (fun _ _ _ h => h) (by rfl) (by assumption) ?_
    try simp only [lays]
    refine' tk0 28 rfl (by kernel_rfl) (fun _ _ _ h => h) (by rfl) (by assumption) ?_
    try simp only [lays]
    refine' tk 29 rfl (by kernel_rfl) (fun _ _ _ h => h) (by rfl) (by assumption) ?y30 ?r30
    case y30 => (intro w h; (try dsimp only at h); go_simp; (try with_reducible rfl))
    try simp only [lays]
    refine' tk 30 rfl (by kernel_rfl) (fun _ _ _ h => h) (by rfl) (by assumption) ?y31 ?r31
    case y31 => (intro w h; (try dsimp only at h); go_simp; (try with_reducible rfl))
    try simp only [lays]
    refine wpAnyH_done (by kernel_rfl) ?_ _
    go_wp2
    go_ret
    exact ⟨by simp, by assumption⟩
  · cases x1
    · go_enter Tryz.func172, Tryz.ntmps172
      go_wp2_with fail
      refine wp_region_held_drew (S := (fun w' => w'.cell? ⟨w.heap.size, 0, none⟩ = some (.int .u16 (a : Int)) ∧ w'.cell? ⟨w.heap.size, 1, none⟩ = some (.int .u16 (b : Int)) ∧ w'.cell? ⟨w.heap.size, 2, none⟩ = some (.int .u8 (c : Int)) ∧ w'.cell? ⟨w.heap.size, 3, none⟩ = some (.int .u8 (d : Int)) ∧ w'.cell? ⟨w.heap.size + 1, 0, none⟩ = some (.int .i64 p) ∧ w'.cell? ⟨w.heap.size + 1, 1, none⟩ = some (.int .i64 q) ∧ w'.cell? ⟨w.heap.size + 1, 2, none⟩ = some (.int .i64 r) ∧ w'.cell? ⟨w.heap.size + 1, 3, none⟩ = some (.int .i64 s))) (by kernel_rfl) (two_fours (by assumption) (by assumption)) (fun hHeld => ?_)
      refine' tk 0 rfl (by kernel_rfl) (fun _ _ _ h => h) (by rfl) (by assumption) ?y33 ?r33
      case y33 => (intro w h; (try dsimp only at h); go_simp; (try with_reducible rfl))
      try simp only [lays]
      refine' tk 1 rfl (by kernel_rfl) (fun _ _ _ h => h) (by rfl) (by assumption) ?y34 ?r34
      case y34 => (intro w h; (try dsimp only at h); go_simp; (try with_reducible rfl))
      try simp only [lays]
      refine' tk 3 rfl (by kernel_rfl) (fun _ _ _ h => h) (by rfl) (by assumption) ?y35 ?r35
      case y35 => (intro w h; (try dsimp only at h); go_simp; (try with_reducible rfl))
      try simp only [lays]
      refine' tk 4 rfl (by kernel_rfl) (fun _ _ _ h => h) (by rfl) (by assumption) ?y36 ?r36
      case y36 => (intro w h; (try dsimp only at h); go_simp; (try with_reducible rfl))
      try simp only [lays]
      refine wpAnyH_ready (rs := [2]) (by kernel_rfl) (by simp) (AllReadyH.cons rfl (fun K hK => ?_) AllReadyH.nil)
      go_simp
      refine (hA.out _).mono ?_; rintro e wz ⟨rfl, hbz⟩; have Dz := chain hbz (by assumption); have Pz := keepFour (n := w.heap.size) hbz (by assumption); have Qz := keepFour (n := w.heap.size + 1) hbz (by assumption); clear hbz
      try go_wp2_with fail
      clear hHeld
      refine hK.out _ _ (two_fours (by assumption) (by assumption)) (fun hHeld => ?_)
      clear hK K
      try simp only [lays]
      refine wpAnyH_ready (rs := [5]) (by kernel_rfl) (by simp) (AllReadyH.cons rfl (fun K hK => ?_) AllReadyH.nil)
      go_simp
      refine (h0.out _).mono ?_; rintro e wz ⟨rfl, hbz⟩; have Dz := chain hbz (by assumption); have Pz := keepFour (n := w.heap.size) hbz (by assumption); have Qz := keepFour (n := w.heap.size + 1) hbz (by assumption); clear hbz
      try go_wp2_with fail
      clear hHeld
      refine hK.out _ _ (two_fours (by assumption) (by assumption)) (fun hHeld => ?_)
      clear hK K
      try simp only [lays]
      refine' tk 6 rfl (by kernel_rfl) (fun _ _ _ h => h) (by rfl) (by assumption) ?y39 ?r39
      case y39 => (intro w h; (try dsimp only at h); go_simp; (try with_reducible rfl))
      try simp only [lays]
      refine' tk 7 rfl (by kernel_rfl) (fun _ _ _ h => h) (by rfl) (by assumption) ?y40 ?r40
      case y40 => (intro w h; (try dsimp only at h); go_simp; (try with_reducible rfl))
      try simp only [lays]
      refine' tk 8 rfl (by kernel_rfl) (fun _ _ _ h => h) (by rfl) (by assumption) ?y41 ?r41
      case y41 => (intro w h; (try dsimp only at h); go_simp; (try with_reducible rfl))
      try simp only [lays]
      refine' tk 10 rfl (by kernel_rfl) (fun _ _ _ h => h) (by rfl) (by assumption) ?y42 ?r42
      case y42 => (intro w h; (try dsimp only at h); go_simp; (try with_reducible rfl))
      try simp only [lays]
      refine' tk 11 rfl (by kernel_rfl) (fun _ _ _ h => h) (by rfl) (by assumption) ?y43 ?r43
      case y43 => (intro w h; (try dsimp only at h); go_simp; (try with_reducible rfl))
      try simp only [lays]
      refine wpAnyH_ready (rs := [9]) (by kernel_rfl) (by simp) (AllReadyH.cons rfl (fun K hK => ?_) AllReadyH.nil)
      go_simp
      refine (hB.out _).mono ?_; rintro e wz ⟨rfl, hbz⟩; have Dz := chain hbz (by assumption); have Pz := keepFour (n := w.heap.size) hbz (by assumption); have Qz := keepFour (n := w.heap.size + 1) hbz (by assumption); clear hbz
      try go_wp2_with fail
      clear hHeld
      refine hK.out _ _ (two_fours (by assumption) (by assumption)) (fun hHeld => ?_)
      clear hK K
      try simp only [lays]
      refine wpAnyH_ready (rs := [12]) (by kernel_rfl) (by simp) (AllReadyH.cons rfl (fun K hK => ?_) AllReadyH.nil)
      go_simp
      refine (h1.out _).mono ?_; rintro e wz ⟨rfl, hbz⟩; have Dz := chain hbz (by assumption); have Pz := keepFour (n := w.heap.size) hbz (by assumption); have Qz := keepFour (n := w.heap.size + 1) hbz (by assumption); clear hbz
      try go_wp2_with fail
      clear hHeld
      refine hK.out _ _ (two_fours (by assumption) (by assumption)) (fun hHeld => ?_)
      clear hK K
      try simp only [lays]
      refine' tk 13 rfl (by kernel_rfl) (fun _ _ _ h => h) (by rfl) (by assumption) ?y46 ?r46
      case y46 => (intro w h; (try dsimp only at h); go_simp; (try with_reducible rfl))
      try simp only [lays]
      refine' tk 14 rfl (by kernel_rfl) (fun _ _ _ h => h) (by rfl) (by assumption) ?y47 ?r47
      case y47 => (intro w h; (try dsimp only at h); go_simp; (try with_reducible rfl))
      try simp only [lays]
      refine' tk0 15 rfl (by kernel_rfl) (fun _ _ _ h => h) (by rfl) (by assumption) ?_
      try simp only [lays]
      refine' tk0 16 rfl (by kernel_rfl) (fun _ _ _ h => h) (by rfl) (by assumption) ?_
      try simp only [lays]
      refine' tk0 17 rfl (by kernel_rfl) (fun _ _ _ h => h) (by rfl) (by assumption) ?_
      try simp only [lays]
      refine' tk0 18 rfl (by kernel_rfl) (fun _ _ _ h => h) (by rfl) (by assumption) ?_
      try simp only [lays]
      refine' tk0 19 rfl (by kernel_rfl) (fun _ _ _ h => h) (by rfl) (by assumption) ?_
      try simp only [lays]
      refine' tk0 20 rfl (by kernel_rfl) (fun _ _ _ h => h) (by rfl) (by assumption) ?_
      try simp only [lays]
      refine' tk 21 rfl (by kernel_rfl) (fun _ _ _ h => h) (by rfl) (by assumption) ?y54 ?r54
      case y54 => (intro w h; (try dsimp only at h); go_simp; (try with_reducible rfl))
      try simp only [lays]
      refine' tk 22 rfl (by kernel_rfl) (fun _ _ _ h => h) (by rfl) (by assumption) ?y55 ?r55
      case y55 => (intro w h; (try dsimp only at h); go_simp; (try with_reducible rfl))
      try simp only [lays]
      refine' tk0 23 rfl (by kernel_rfl) (fun _ _ _ h => h) (by rfl) (by assumption) ?_
      try simp only [lays]
      refine' tk0 24 rfl (by kernel_rfl) (fun _ _ _ h => h) (by rfl) (by assumption) ?_
      try simp only [lays]
      refine' tk0 25 rfl (by kernel_rfl) (fun _ _ _ h => h) (by rfl) (by assumption) ?_
      try simp only [lays]
      refine' tk0 26 rfl (by kernel_rfl) (fun _ _ _ h => h) (by rfl) (by assumption) ?_
      try simp only [lays]
      refine' tk0 27 rfl (by kernel_rfl) (fun _ _ _ h => h) (by rfl) (by assumption) ?_
      try simp only [lays]
      refine' tk0 28 rfl (by kernel_rfl) (fun _ _ _ h => h) (by rfl) (by assumption) ?_
      try simp only [lays]
      refine' tk 29 rfl (by kernel_rfl) (fun _ _ _ h => h) (by rfl) (by assumption) ?y62 ?r62
      case y62 => (intro w h; (try dsimp only at h); go_simp; (try with_reducible rfl))
      try simp only [lays]
      refine' tk 30 rfl (by kernel_rfl) (fun _ _ _ h => h) (by rfl) (by assumption) ?y63 ?r63
      case y63 => (intro w h; (try dsimp only at h); go_simp; (try with_reducible rfl))
      try simp only [lays]
      refine wpAnyH_done (by kernel_rfl) ?_ _
      go_wp2
      go_ret
      exact ⟨by simp, by assumption⟩
    · cases x2
      · go_enter Tryz.func172, Tryz.ntmps172
        go_wp2_with fail
        refine wp_region_held_drew (S := (fun w' => w'.cell? ⟨w.heap.size, 0, none⟩ = some (.int .u16 (a : Int)) ∧ w'.cell? ⟨w.heap.size, 1, none⟩ = some (.int .u16 (b : Int)) ∧ w'.cell? ⟨w.heap.size, 2, none⟩ = some (.int .u8 (c : Int)) ∧ w'.cell? ⟨w.heap.size, 3, none⟩ = some (.int .u8 (d : Int)) ∧ w'.cell? ⟨w.heap.size + 1, 0, none⟩ = some (.int .i64 p) ∧ w'.cell? ⟨w.heap.size + 1, 1, none⟩ = some (.int .i64 q) ∧ w'.cell? ⟨w.heap.size + 1, 2, none⟩ = some (.int .i64 r) ∧ w'.cell? ⟨w.heap.size + 1, 3, none⟩ = some (.int .i64 s))) (by kernel_rfl) (two_fours (by assumption) (by assumption)) (fun hHeld => ?_)
        refine' tk 0 rfl (by kernel_rfl) (fun _ _ _ h => h) (by rfl) (by assumption) ?y65 ?r65
        case y65 => (intro w h; (try dsimp only at h); go_simp; (try with_reducible rfl))
        try simp only [lays]
        refine' tk 1 rfl (by kernel_rfl) (fun _ _ _ h => h) (by rfl) (by assumption) ?y66 ?r66
        case y66 => (intro w h; (try dsimp only at h); go_simp; (try with_reducible rfl))
        try simp only [lays]
        refine' tk 3 rfl (by kernel_rfl) (fun _ _ _ h => h) (by rfl) (by assumption) ?y67 ?r67
        case y67 => (intro w h; (try dsimp only at h); go_simp; (try with_reducible rfl))
        try simp only [lays]
        refine' tk 4 rfl (by kernel_rfl) (fun _ _ _ h => h) (by rfl) (by assumption) ?y68 ?r68
        case y68 => (intro w h; (try dsimp only at h); go_simp; (try with_reducible rfl))
        try simp only [lays]
        refine wpAnyH_ready (rs := [2]) (by kernel_rfl) (by simp) (AllReadyH.cons rfl (fun K hK => ?_) AllReadyH.nil)
        go_simp
        refine (hA.out _).mono ?_; rintro e wz ⟨rfl, hbz⟩; have Dz := chain hbz (by assumption); have Pz := keepFour (n := w.heap.size) hbz (by assumption); have Qz := keepFour (n := w.heap.size + 1) hbz (by assumption); clear hbz
        try go_wp2_with fail
        clear hHeld
        refine hK.out _ _ (two_fours (by assumption) (by assumption)) (fun hHeld => ?_)
        clear hK K
        try simp only [lays]
        refine wpAnyH_ready (rs := [5]) (by kernel_rfl) (by simp) (AllReadyH.cons rfl (fun K hK => ?_) AllReadyH.nil)
        go_simp
        refine (h0.out _).mono ?_; rintro e wz ⟨rfl, hbz⟩; have Dz := chain hbz (by assumption); have Pz := keepFour (n := w.heap.size) hbz (by assumption); have Qz := keepFour (n := w.heap.size + 1) hbz (by assumption); clear hbz
        try go_wp2_with fail
        clear hHeld
        refine hK.out _ _ (two_fours (by assumption) (by assumption)) (fun hHeld => ?_)
        clear hK K
        try simp only [lays]
        refine' tk 6 rfl (by kernel_rfl) (fun _ _ _ h => h) (by rfl) (by assumption) ?y71 ?r71
        case y71 => (intro w h; (try dsimp only at h); go_simp; (try with_reducible rfl))
        try simp only [lays]
        refine' tk 7 rfl (by kernel_rfl) (fun _ _ _ h => h) (by rfl) (by assumption) ?y72 ?r72
        case y72 => (intro w h; (try dsimp only at h); go_simp; (try with_reducible rfl))
        try simp only [lays]
        refine' tk 8 rfl (by kernel_rfl) (fun _ _ _ h => h) (by rfl) (by assumption) ?y73 ?r73
        case y73 => (intro w h; (try dsimp only at h); go_simp; (try with_reducible rfl))
        try simp only [lays]
        refine' tk 10 rfl (by kernel_rfl) (fun _ _ _ h => h) (by rfl) (by assumption) ?y74 ?r74
        case y74 => (intro w h; (try dsimp only at h); go_simp; (try with_reducible rfl))
        try simp only [lays]
        refine' tk 11 rfl (by kernel_rfl) (fun _ _ _ h => h) (by rfl) (by assumption) ?y75 ?r75
        case y75 => (intro w h; (try dsimp only at h); go_simp; (try with_reducible rfl))
        try simp only [lays]
        refine wpAnyH_ready (rs := [9]) (by kernel_rfl) (by simp) (AllReadyH.cons rfl (fun K hK => ?_) AllReadyH.nil)
        go_simp
        refine (hB.out _).mono ?_; rintro e wz ⟨rfl, hbz⟩; have Dz := chain hbz (by assumption); have Pz := keepFour (n := w.heap.size) hbz (by assumption); have Qz := keepFour (n := w.heap.size + 1) hbz (by assumption); clear hbz
        try go_wp2_with fail
        clear hHeld
        refine hK.out _ _ (two_fours (by assumption) (by assumption)) (fun hHeld => ?_)
        clear hK K
        try simp only [lays]
        refine wpAnyH_ready (rs := [12]) (by kernel_rfl) (by simp) (AllReadyH.cons rfl (fun K hK => ?_) AllReadyH.nil)
        go_simp
        refine (h1.out _).mono ?_; rintro e wz ⟨rfl, hbz⟩; have Dz := chain hbz (by assumption); have Pz := keepFour (n := w.heap.size) hbz (by assumption); have Qz := keepFour (n := w.heap.size + 1) hbz (by assumption); clear hbz
        try go_wp2_with fail
        clear hHeld
        refine hK.out _ _ (two_fours (by assumption) (by assumption)) (fun hHeld => ?_)
        clear hK K
        try simp only [lays]
        refine' tk 13 rfl (by kernel_rfl) (fun _ _ _ h => h) (by rfl) (by assumption) ?y78 ?r78
        case y78 => (intro w h; (try dsimp only at h); go_simp; (try with_reducible rfl))
        try simp only [lays]
        refine' tk 14 rfl (by kernel_rfl) (fun _ _ _ h => h) (by rfl) (by assumption) ?y79 ?r79
        case y79 => (intro w h; (try dsimp only at h); go_simp; (try with_reducible rfl))
        try simp only [lays]
        refine' tk 15 rfl (by kernel_rfl) (fun _ _ _ h => h) (by rfl) (by assumption) ?y80 ?r80
        case y80 => (intro w h; (try dsimp only at h); go_simp; (try with_reducible rfl))
        try simp only [lays]
        refine' tk 16 rfl (by kernel_rfl) (fun _ _ _ h => h) (by rfl) (by assumption) ?y81 ?r81
        case y81 => (intro w h; (try dsimp only at h); go_simp; (try with_reducible rfl))
        try simp only [lays]
        refine' tk 18 rfl (by kernel_rfl) (fun _ _ _ h => h) (by rfl) (by assumption) ?y82 ?r82
        case y82 => (intro w h; (try dsimp only at h); go_simp; (try with_reducible rfl))
        try simp only [lays]
        refine' tk 19 rfl (by kernel_rfl) (fun _ _ _ h => h) (by rfl) (by assumption) ?y83 ?r83
        case y83 => (intro w h; (try dsimp only at h); go_simp; (try with_reducible rfl))
        try simp only [lays]
        refine wpAnyH_ready (rs := [17]) (by kernel_rfl) (by simp) (AllReadyH.cons rfl (fun K hK => ?_) AllReadyH.nil)
        go_simp
        refine (hC.out _).mono ?_; rintro e wz ⟨rfl, hbz⟩; have Dz := chain hbz (by assumption); have Pz := keepFour (n := w.heap.size) hbz (by assumption); have Qz := keepFour (n := w.heap.size + 1) hbz (by assumption); clear hbz
        try go_wp2_with fail
        clear hHeld
        refine hK.out _ _ (two_fours (by assumption) (by assumption)) (fun hHeld => ?_)
        clear hK K
        try simp only [lays]
        refine wpAnyH_ready (rs := [20]) (by kernel_rfl) (by simp) (AllReadyH.cons rfl (fun K hK => ?_) AllReadyH.nil)
        go_simp
        refine (h2.out _).mono ?_; rintro e wz ⟨rfl, hbz⟩; have Dz := chain hbz (by assumption); have Pz := keepFour (n := w.heap.size) hbz (by assumption); have Qz := keepFour (n := w.heap.size + 1) hbz (by assumption); clear hbz
        try go_wp2_with fail
        clear hHeld
        refine hK.out _ _ (two_fours (by assumption) (by assumption)) (fun hHeld => ?_)
        clear hK K
        try simp only [lays]
        refine' tk 21 rfl (by kernel_rfl) (fun _ _ _ h => h) (by rfl) (by assumption) ?y86 ?r86
        case y86 => (intro w h; (try dsimp only at h); go_simp; (try with_reducible rfl))
        try simp only [lays]
        refine' tk 22 rfl (by kernel_rfl) (fun _ _ _ h => h) (by rfl) (by assumption) ?y87 ?r87
        case y87 => (intro w h; (try dsimp only at h); go_simp; (try with_reducible rfl))
        try simp only [lays]
        refine' tk0 23 rfl (by kernel_rfl) (fun _ _ _ h => h) (by rfl) (by assumption) ?_
        try simp only [lays]
        refine' tk0 24 rfl (by kernel_rfl) (fun _ _ _ h => h) (by rfl) (by assumption) ?_
        try simp only [lays]
        refine' tk0 25 rfl (by kernel_rfl) (fun _ _ _ h => h) (by rfl) (by assumption) ?_
        try simp only [lays]
        refine' tk0 26 rfl (by kernel_rfl) (fun _ _ _ h => h) (by rfl) (by assumption) ?_
        try simp only [lays]
        refine' tk0 27 rfl (by kernel_rfl) (fun _ _ _ h => h) (by rfl) (by assumption) ?_
        try simp only [lays]
        refine' tk0 28 rfl (by kernel_rfl) (fun _ _ _ h => h) (by rfl) (by assumption) ?_
        try simp only [lays]
        refine' tk 29 rfl (by kernel_rfl) (fun _ _ _ h => h) (by rfl) (by assumption) ?y94 ?r94
        case y94 => (intro w h; (try dsimp only at h); go_simp; (try with_reducible rfl))
        try simp only [lays]
        refine' tk 30 rfl (by kernel_rfl) (fun _ _ _ h => h) (by rfl) (by assumption) ?y95 ?r95
        case y95 => (intro w h; (try dsimp only at h); go_simp; (try with_reducible rfl))
        try simp only [lays]
        refine wpAnyH_done (by kernel_rfl) ?_ _
        go_wp2
        go_ret
        exact ⟨by simp, by assumption⟩
      · go_enter Tryz.func172, Tryz.ntmps172
        go_wp2_with fail
        refine wp_region_held_drew (S := (fun w' => w'.cell? ⟨w.heap.size, 0, none⟩ = some (.int .u16 (a : Int)) ∧ w'.cell? ⟨w.heap.size, 1, none⟩ = some (.int .u16 (b : Int)) ∧ w'.cell? ⟨w.heap.size, 2, none⟩ = some (.int .u8 (c : Int)) ∧ w'.cell? ⟨w.heap.size, 3, none⟩ = some (.int .u8 (d : Int)) ∧ w'.cell? ⟨w.heap.size + 1, 0, none⟩ = some (.int .i64 p) ∧ w'.cell? ⟨w.heap.size + 1, 1, none⟩ = some (.int .i64 q) ∧ w'.cell? ⟨w.heap.size + 1, 2, none⟩ = some (.int .i64 r) ∧ w'.cell? ⟨w.heap.size + 1, 3, none⟩ = some (.int .i64 s))) (by kernel_rfl) (two_fours (by assumption) (by assumption)) (fun hHeld => ?_)
        refine' tk 0 rfl (by kernel_rfl) (fun _ _ _ h => h) (by rfl) (by assumption) ?y97 ?r97
        case y97 => (intro w h; (try dsimp only at h); go_simp; (try with_reducible rfl))
        try simp only [lays]
        refine' tk 1 rfl (by kernel_rfl) (fun _ _ _ h => h) (by rfl) (by assumption) ?y98 ?r98
        case y98 => (intro w h; (try dsimp only at h); go_simp; (try with_reducible rfl))
        try simp only [lays]
        refine' tk 3 rfl (by kernel_rfl) (fun _ _ _ h => h) (by rfl) (by assumption) ?y99 ?r99
        case y99 => (intro w h; (try dsimp only at h); go_simp; (try with_reducible rfl))
        try simp only [lays]
        refine' tk 4 rfl (by kernel_rfl) (fun _ _ _ h => h) (by rfl) (by assumption) ?y100 ?r100
        case y100 => (intro w h; (try dsimp only at h); go_simp; (try with_reducible rfl))
        try simp only [lays]
        refine wpAnyH_ready (rs := [2]) (by kernel_rfl) (by simp) (AllReadyH.cons rfl (fun K hK => ?_) AllReadyH.nil)
        go_simp
        refine (hA.out _).mono ?_; rintro e wz ⟨rfl, hbz⟩; have Dz := chain hbz (by assumption); have Pz := keepFour (n := w.heap.size) hbz (by assumption); have Qz := keepFour (n := w.heap.size + 1) hbz (by assumption); clear hbz
        try go_wp2_with fail
        clear hHeld
        refine hK.out _ _ (two_fours (by assumption) (by assumption)) (fun hHeld => ?_)
        clear hK K
        try simp only [lays]
        refine wpAnyH_ready (rs := [5]) (by kernel_rfl) (by simp) (AllReadyH.cons rfl (fun K hK => ?_) AllReadyH.nil)
        go_simp
        refine (h0.out _).mono ?_; rintro e wz ⟨rfl, hbz⟩; have Dz := chain hbz (by assumption); have Pz := keepFour (n := w.heap.size) hbz (by assumption); have Qz := keepFour (n := w.heap.size + 1) hbz (by assumption); clear hbz
        try go_wp2_with fail
        clear hHeld
        refine hK.out _ _ (two_fours (by assumption) (by assumption)) (fun hHeld => ?_)
        clear hK K
        try simp only [lays]
        refine' tk 6 rfl (by kernel_rfl) (fun _ _ _ h => h) (by rfl) (by assumption) ?y103 ?r103
        case y103 => (intro w h; (try dsimp only at h); go_simp; (try with_reducible rfl))
        try simp only [lays]
        refine' tk 7 rfl (by kernel_rfl) (fun _ _ _ h => h) (by rfl) (by assumption) ?y104 ?r104
        case y104 => (intro w h; (try dsimp only at h); go_simp; (try with_reducible rfl))
        try simp only [lays]
        refine' tk 8 rfl (by kernel_rfl) (fun _ _ _ h => h) (by rfl) (by assumption) ?y105 ?r105
        case y105 => (intro w h; (try dsimp only at h); go_simp; (try with_reducible rfl))
        try simp only [lays]
        refine' tk 10 rfl (by kernel_rfl) (fun _ _ _ h => h) (by rfl) (by assumption) ?y106 ?r106
        case y106 => (intro w h; (try dsimp only at h); go_simp; (try with_reducible rfl))
        try simp only [lays]
        refine' tk 11 rfl (by kernel_rfl) (fun _ _ _ h => h) (by rfl) (by assumption) ?y107 ?r107
        case y107 => (intro w h; (try dsimp only at h); go_simp; (try with_reducible rfl))
        try simp only [lays]
        refine wpAnyH_ready (rs := [9]) (by kernel_rfl) (by simp) (AllReadyH.cons rfl (fun K hK => ?_) AllReadyH.nil)
        go_simp
        refine (hB.out _).mono ?_; rintro e wz ⟨rfl, hbz⟩; have Dz := chain hbz (by assumption); have Pz := keepFour (n := w.heap.size) hbz (by assumption); have Qz := keepFour (n := w.heap.size + 1) hbz (by assumption); clear hbz
        try go_wp2_with fail
        clear hHeld
        refine hK.out _ _ (two_fours (by assumption) (by assumption)) (fun hHeld => ?_)
        clear hK K
        try simp only [lays]
        refine wpAnyH_ready (rs := [12]) (by kernel_rfl) (by simp) (AllReadyH.cons rfl (fun K hK => ?_) AllReadyH.nil)
        go_simp
        refine (h1.out _).mono ?_; rintro e wz ⟨rfl, hbz⟩; have Dz := chain hbz (by assumption); have Pz := keepFour (n := w.heap.size) hbz (by assumption); have Qz := keepFour (n := w.heap.size + 1) hbz (by assumption); clear hbz
        try go_wp2_with fail
        clear hHeld
        refine hK.out _ _ (two_fours (by assumption) (by assumption)) (fun hHeld => ?_)
        clear hK K
        try simp only [lays]
        refine' tk 13 rfl (by kernel_rfl) (fun _ _ _ h => h) (by rfl) (by assumption) ?y110 ?r110
        case y110 => (intro w h; (try dsimp only at h); go_simp; (try with_reducible rfl))
        try simp only [lays]
        refine' tk 14 rfl (by kernel_rfl) (fun _ _ _ h => h) (by rfl) (by assumption) ?y111 ?r111
        case y111 => (intro w h; (try dsimp only at h); go_simp; (try with_reducible rfl))
        try simp only [lays]
        refine' tk 15 rfl (by kernel_rfl) (fun _ _ _ h => h) (by rfl) (by assumption) ?y112 ?r112
        case y112 => (intro w h; (try dsimp only at h); go_simp; (try with_reducible rfl))
        try simp only [lays]
        refine' tk 16 rfl (by kernel_rfl) (fun _ _ _ h => h) (by rfl) (by assumption) ?y113 ?r113
        case y113 => (intro w h; (try dsimp only at h); go_simp; (try with_reducible rfl))
        try simp only [lays]
        refine' tk 18 rfl (by kernel_rfl) (fun _ _ _ h => h) (by rfl) (by assumption) ?y114 ?r114
        case y114 => (intro w h; (try dsimp only at h); go_simp; (try with_reducible rfl))
        try simp only [lays]
        refine' tk 19 rfl (by kernel_rfl) (fun _ _ _ h => h) (by rfl) (by assumption) ?y115 ?r115
        case y115 => (intro w h; (try dsimp only at h); go_simp; (try with_reducible rfl))
        try simp only [lays]
        refine wpAnyH_ready (rs := [17]) (by kernel_rfl) (by simp) (AllReadyH.cons rfl (fun K hK => ?_) AllReadyH.nil)
        go_simp
        refine (hC.out _).mono ?_; rintro e wz ⟨rfl, hbz⟩; have Dz := chain hbz (by assumption); have Pz := keepFour (n := w.heap.size) hbz (by assumption); have Qz := keepFour (n := w.heap.size + 1) hbz (by assumption); clear hbz
        try go_wp2_with fail
        clear hHeld
        refine hK.out _ _ (two_fours (by assumption) (by assumption)) (fun hHeld => ?_)
        clear hK K
        try simp only [lays]
        refine wpAnyH_ready (rs := [20]) (by kernel_rfl) (by simp) (AllReadyH.cons rfl (fun K hK => ?_) AllReadyH.nil)
        go_simp
        refine (h2.out _).mono ?_; rintro e wz ⟨rfl, hbz⟩; have Dz := chain hbz (by assumption); have Pz := keepFour (n := w.heap.size) hbz (by assumption); have Qz := keepFour (n := w.heap.size + 1) hbz (by assumption); clear hbz
        try go_wp2_with fail
        clear hHeld
        refine hK.out _ _ (two_fours (by assumption) (by assumption)) (fun hHeld => ?_)
        clear hK K
        try simp only [lays]
        refine' tk 21 rfl (by kernel_rfl) (fun _ _ _ h => h) (by rfl) (by assumption) ?y118 ?r118
        case y118 => (intro w h; (try dsimp only at h); go_simp; (try with_reducible rfl))
        try simp only [lays]
        refine' tk 22 rfl (by kernel_rfl) (fun _ _ _ h => h) (by rfl) (by assumption) ?y119 ?r119
        case y119 => (intro w h; (try dsimp only at h); go_simp; (try with_reducible rfl))
        try simp only [lays]
        refine' tk 23 rfl (by kernel_rfl) (fun _ _ _ h => h) (by rfl) (by assumption) ?y120 ?r120
        case y120 => (intro w h; (try dsimp only at h); go_simp; (try with_reducible rfl))
        try simp only [lays]
        refine' tk 24 rfl (by kernel_rfl) (fun _ _ _ h => h) (by rfl) (by assumption) ?y121 ?r121
        case y121 => (intro w h; (try dsimp only at h); go_simp; (try with_reducible rfl))
        try simp only [lays]
        refine' tk 26 rfl (by kernel_rfl) (fun _ _ _ h => h) (by rfl) (by assumption) ?y122 ?r122
        case y122 => (intro w h; (try dsimp only at h); go_simp; (try with_reducible rfl))
        try simp only [lays]
        refine' tk 27 rfl (by kernel_rfl) (fun _ _ _ h => h) (by rfl) (by assumption) ?y123 ?r123
        case y123 => (intro w h; (try dsimp only at h); go_simp; (try with_reducible rfl))
        try simp only [lays]
        refine wpAnyH_ready (rs := [25]) (by kernel_rfl) (by simp) (AllReadyH.cons rfl (fun K hK => ?_) AllReadyH.nil)
        go_simp
        refine (hD.out _).mono ?_; rintro e wz ⟨rfl, hbz⟩; have Dz := chain hbz (by assumption); have Pz := keepFour (n := w.heap.size) hbz (by assumption); have Qz := keepFour (n := w.heap.size + 1) hbz (by assumption); clear hbz
        try go_wp2_with fail
        clear hHeld
        refine hK.out _ _ (two_fours (by assumption) (by assumption)) (fun hHeld => ?_)
        clear hK K
        try simp only [lays]
        refine wpAnyH_ready (rs := [28]) (by kernel_rfl) (by simp) (AllReadyH.cons rfl (fun K hK => ?_) AllReadyH.nil)
        go_simp
        refine (h3.out _).mono ?_; rintro e wz ⟨rfl, hbz⟩; have Dz := chain hbz (by assumption); have Pz := keepFour (n := w.heap.size) hbz (by assumption); have Qz := keepFour (n := w.heap.size + 1) hbz (by assumption); clear hbz
        try go_wp2_with fail
        clear hHeld
        refine hK.out _ _ (two_fours (by assumption) (by assumption)) (fun hHeld => ?_)
        clear hK K
        try simp only [lays]
        refine' tk 29 rfl (by kernel_rfl) (fun _ _ _ h => h) (by rfl) (by assumption) ?y126 ?r126
        case y126 => (intro w h; (try dsimp only at h); go_simp; (try with_reducible rfl))
        try simp only [lays]
        refine' tk 30 rfl (by kernel_rfl) (fun _ _ _ h => h) (by rfl) (by assumption) ?y127 ?r127
        case y127 => (intro w h; (try dsimp only at h); go_simp; (try with_reducible rfl))
        try simp only [lays]
        refine wpAnyH_done (by kernel_rfl) ?_ _
        go_wp2
        go_ret
        exact ⟨by simp, by assumption⟩
end Go.Proofs.YtlmmeppifkigeaaGreat

namespace Go.Proofs.YtlmmeppifkigeaaGreat
open Go.RowKit

/-- What In tells. -/
def inB (a b c d : Nat) (p q r s : Int) : Bool := hasB a p && hasB b q && hasB c r && hasB d s
theorem in_any (a b c d : Nat) (p q r s : Int) (w : World) (ha : a < 65536) (hb : b < 65536) (hc : c < 256) (hd : d < 256) :
    Calls Tryz.prog 172 #[mt a b c d, pk p q r s] w fun e w' => e = .returned (.bool (inB a b c d p q r s)) ∧ Below w.heap.size w w' :=
  in_case a b c d p q r s w _ _ _ _ (fun w => addrs_any a w ha) (fun w => addrs_any b w hb) (fun w => ports_any c w hc) (fun w => ports_any d w hd)
    (fun w => has_any a p 16 w ha) (fun w => has_any b q 16 w hb) (fun w => has_any c r 8 w (by omega)) (fun w => has_any d s 8 w (by omega))

/-- A rule: does it let through what its match has? -/
structure Rl where
  ok : Bool
  a : Nat
  b : Nat
  c : Nat
  d : Nat
  ha : a < 65536
  hb : b < 65536
  hc : c < 256
  hd : d < 256
def inR (r : Rl) (p q s t : Int) : Bool := inB r.a r.b r.c r.d p q s t
/-- What a list of rules says of a packet. -/
def letsB : List Rl → Int → Int → Int → Int → Bool
  | [], _, _, _, _ => false
  | r :: l, p, q, s, t => if inR r p q s t then r.ok else letsB l p q s t
def allR (ok : Bool) : Rl := ⟨ok, 65535, 65535, 255, 255, by omega, by omega, by omega, by omega⟩
abbrev rcells (r : Rl) : List Value := [.bool r.ok, .int .u16 (r.a : Int), .int .u16 (r.b : Int), .int .u8 (r.c : Int), .int .u8 (r.d : Int)]
abbrev rv (r : Rl) : Value := .agg #[.bool r.ok, .int .u16 (r.a : Int), .int .u16 (r.b : Int), .int .u8 (r.c : Int), .int .u8 (r.d : Int)]
def cellsR (xs : List Rl) : List Value := xs.flatMap fun r => rcells r

theorem cellsR_cons (r : Rl) (l : List Rl) : cellsR (r :: l) = rcells r ++ cellsR l := rfl
theorem cellsR_append (a b : List Rl) : cellsR (a ++ b) = cellsR a ++ cellsR b := by simp [cellsR]
theorem cellsR_length : ∀ xs : List Rl, (cellsR xs).length = xs.length * 5
  | [] => rfl
  | r :: l => by
    have := cellsR_length l
    rw [cellsR_cons, List.length_append, this]
    simp
    omega
theorem cellsR_one : ∀ xs : List Rl, ∀ u ∈ cellsR xs, u.oneCell' = true
  | [], u, h => by simp [cellsR] at h
  | r :: l, u, h => by
    rw [cellsR_cons, List.mem_append] at h
    rcases h with h | h
    · simp only [rcells, List.mem_cons, List.not_mem_nil, or_false] at h
      rcases h with rfl | rfl | rfl | rfl | rfl <;> rfl
    · exact cellsR_one l u h
theorem cellsR_at : ∀ (xs : List Rl) (k : Nat) (r : Rl), xs[k]? = some r →
    (cellsR xs)[k * 5]? = some (.bool r.ok) ∧ (cellsR xs)[k * 5 + 1]? = some (.int .u16 (r.a : Int)) ∧ (cellsR xs)[k * 5 + 2]? = some (.int .u16 (r.b : Int)) ∧ (cellsR xs)[k * 5 + 3]? = some (.int .u8 (r.c : Int)) ∧ (cellsR xs)[k * 5 + 4]? = some (.int .u8 (r.d : Int))
  | [], k, r, h => by simp at h
  | x :: l, 0, r, h => by
    obtain rfl : x = r := by simpa using h
    exact ⟨rfl, rfl, rfl, rfl, rfl⟩
  | x :: l, k + 1, r, h => by
    have ih := cellsR_at l k r (by simpa using h)
    have sh : ∀ j, (cellsR (x :: l))[(k + 1) * 5 + j]? = (cellsR l)[k * 5 + j]? := fun j => by
      rw [cellsR_cons, List.getElem?_append_right (by simp; omega)]
      congr 1
      simp
      omega
    have s0 := sh 0
    simp only [Nat.add_zero] at s0
    rw [s0, sh 1, sh 2, sh 3, sh 4]
    exact ih

/-- So the rules lie in block b, from cell o on. -/
def RAt (w : World) (b o : Nat) (xs : List Rl) : Prop := ∀ j u, (cellsR xs)[j]? = some u → w.cell? ⟨b, o + j, none⟩ = some u
/-- A slice that holds the rules, below block number base. -/
def Rules (base : Nat) (w : World) (v : Value) (xs : List Rl) : Prop :=
  ∃ A cap, v = .slice A xs.length cap ∧ (A = none → cap = 0) ∧ xs.length ≤ cap ∧ cap ≤ maxLen ∧ (xs ≠ [] → ∃ b o, A = some ⟨b, o, none⟩ ∧ b < base ∧ RAt w b o xs)

theorem RAt.at {w : World} {b o : Nat} {xs : List Rl} (h : RAt w b o xs) {k : Nat} {r : Rl} (hk : xs[k]? = some r) :
    w.cell? ⟨b, o + k * 5, none⟩ = some (.bool r.ok) ∧ w.cell? ⟨b, o + k * 5 + 1, none⟩ = some (.int .u16 (r.a : Int)) ∧ w.cell? ⟨b, o + k * 5 + 2, none⟩ = some (.int .u16 (r.b : Int)) ∧ w.cell? ⟨b, o + k * 5 + 3, none⟩ = some (.int .u8 (r.c : Int)) ∧ w.cell? ⟨b, o + k * 5 + 4, none⟩ = some (.int .u8 (r.d : Int)) := by
  obtain ⟨h0, h1, h2, h3, h4⟩ := cellsR_at xs k r hk
  exact ⟨h _ _ h0, h _ _ h1, h _ _ h2, h _ _ h3, h _ _ h4⟩
theorem RAt.below {base : Nat} {w w' : World} {b o : Nat} {xs : List Rl} (h : RAt w b o xs) (hb : Below base w w') (hl : b < base) : RAt w' b o xs :=
  fun j u hj => (hb.cell (p := ⟨b, _, none⟩) hl).trans (h j u hj)
theorem Rules.below {base : Nat} {w w' : World} {v : Value} {xs : List Rl} (h : Rules base w v xs) (hb : Below base w w') : Rules base w' v xs := by
  obtain ⟨A, cap, e, h0, h1, h2, h3⟩ := h
  refine ⟨A, cap, e, h0, h1, h2, fun hn => ?_⟩
  obtain ⟨b, o, ea, hl, hr⟩ := h3 hn
  exact ⟨b, o, ea, hl, hr.below hb hl⟩
theorem Rules.mono {base base' : Nat} {w : World} {v : Value} {xs : List Rl} (h : Rules base w v xs) (hb : base ≤ base') : Rules base' w v xs := by
  obtain ⟨A, cap, e, h0, h1, h2, h3⟩ := h
  refine ⟨A, cap, e, h0, h1, h2, fun hn => ?_⟩
  obtain ⟨b, o, ea, hl, hr⟩ := h3 hn
  exact ⟨b, o, ea, by omega, hr⟩
/-- A row of a call's own, read as rules. -/
theorem Rules.own {base : Nat} {w : World} {t : TypeId} {v : Value} {xs : List Rl} (h : w.ownsRow base t 5 v xs.length (cellsR xs)) : Rules w.heap.size w v xs := by
  obtain ⟨hl, hc⟩ := h
  rcases hc with ⟨rfl, h0⟩ | ⟨g, cap, cur, rfl, hb, hg, hn, hcap, hs, ht⟩
  · exact ⟨none, 0, by rw [h0], fun _ => rfl, by omega, by unfold maxLen; omega, fun hn => absurd (List.length_eq_zero_iff.1 h0) hn⟩
  · refine ⟨_, cap, rfl, (fun e => by cases e), hn, hcap, fun _ => ⟨g, 0, rfl, (Array.getElem?_eq_some_iff.1 hg).1, fun j u hj => ?_⟩⟩
    have hown : w.ownsRow base t 5 (.slice (some ⟨g, 0, none⟩) xs.length cap) xs.length (cellsR xs) := ⟨hl, .inr ⟨g, cap, cur, rfl, hb, hg, hn, hcap, hs, ht⟩⟩
    have := hown.cells (g := g) rfl j u hj
    rw [Addr.add_lit] at this
    exact this

/-! ### what a list says -/
theorem inR_all {ok : Bool} {p q s t : Int} (hp : 0 ≤ p ∧ p < 16) (hq : 0 ≤ q ∧ q < 16) (hs : 0 ≤ s ∧ s < 8) (ht : 0 ≤ t ∧ t < 8) : inR (allR ok) p q s t = true := by
  have one : ∀ (n : Int) (m : Nat), 0 ≤ n → n < m → hasB (2 ^ m - 1) n = true := by
    intro n m h0 h1
    unfold hasB
    rw [Nat.testBit_two_pow_sub_one]
    simp
    omega
  unfold inR allR inB
  have h1 := one p 16 hp.1 hp.2
  have h2 := one q 16 hq.1 hq.2
  have h3 := one s 8 hs.1 hs.2
  have h4 := one t 8 ht.1 ht.2
  simp only [show (2 : Nat) ^ 16 - 1 = 65535 from rfl, show (2 : Nat) ^ 8 - 1 = 255 from rfl] at h1 h2 h3 h4
  simp [h1, h2, h3, h4]
theorem letsB_append : ∀ (l m : List Rl) (p q s t : Int), (∃ r ∈ l, inR r p q s t = true) → letsB (l ++ m) p q s t = letsB l p q s t
  | [], _, _, _, _, _, h => by obtain ⟨r, hr, _⟩ := h; cases hr
  | x :: l, m, p, q, s, t, h => by
    simp only [List.cons_append, letsB]
    by_cases hx : inR x p q s t = true
    · rw [if_pos hx, if_pos hx]
    · rw [if_neg hx, if_neg hx]
      refine letsB_append l m p q s t ?_
      obtain ⟨r, hr, hi⟩ := h
      rcases List.mem_cons.1 hr with rfl | hr
      · exact absurd hi hx
      · exact ⟨r, hr, hi⟩
theorem letsB_none : ∀ (l m : List Rl) (p q s t : Int), (∀ r ∈ l, inR r p q s t = false) → letsB (l ++ m) p q s t = letsB m p q s t
  | [], _, _, _, _, _, _ => rfl
  | x :: l, m, p, q, s, t, h => by
    simp only [List.cons_append, letsB]
    rw [if_neg (by rw [h x (List.mem_cons_self ..)]; simp)]
    exact letsB_none l m p q s t (fun r hr => h r (List.mem_cons_of_mem _ hr))
/-- Behind a rule for all that lets nothing through nothing is looked at. -/
theorem letsB_ended (l m : List Rl) {p q s t : Int} (h : inR (allR false) p q s t = true) : letsB (l ++ (allR false :: m)) p q s t = letsB l p q s t := by
  by_cases hx : ∃ r ∈ l, inR r p q s t = true
  · exact letsB_append l _ p q s t hx
  · have hx' : ∀ r ∈ l, inR r p q s t = false := fun r hr => by
      cases hi : inR r p q s t
      · rfl
      · exact absurd ⟨r, hr, hi⟩ hx
    rw [letsB_none l _ p q s t hx', letsB, if_pos h]
    have := letsB_none l [] p q s t hx'
    rw [List.append_nil] at this
    rw [this]
    rfl
end Go.Proofs.YtlmmeppifkigeaaGreat

namespace Go.Proofs.YtlmmeppifkigeaaGreat
open Go.RowKit Go.Shelf
attribute [local go_sem] Oper.semAt_some

abbrev IR := Nat × Rl
def encIR (x : IR) : Array Value := #[.int .i64 (x.1 : Int), rv x.2]
/-- What has come when k rounds are over. -/
def came (xs : List Rl) (k : Nat) : List IR := (List.range k).map fun j => (xs.length - 1 - j, (xs[xs.length - 1 - j]?).getD (allR false))
theorem came_succ (xs : List Rl) (k : Nat) : came xs (k + 1) = came xs k ++ [(xs.length - 1 - k, (xs[xs.length - 1 - k]?).getD (allR false))] := by simp [came, List.range_succ]
theorem came_length (xs : List Rl) (k : Nat) : (came xs k).length = k := by simp [came]
/-- What a round keeps for the iterator. -/
def KpB (base Bs : Nat) (v : Value) (W W' : World) : Prop := Below base W W' ∧ (Boxed W Bs 59 v → Boxed W' Bs 59 v)
theorem kpB_t {base Bs : Nat} {v : Value} {A B C : World} (h : KpB base Bs v A B) (k : KpB base Bs v B C) : KpB base Bs v A C := ⟨h.1.trans k.1, fun x => k.2 (h.2 x)⟩
theorem kpB_refl {base Bs : Nat} {v : Value} (A : World) : KpB base Bs v A A := ⟨Below.refl _ _, id⟩

set_option maxRecDepth 100000 in
set_option maxHeartbeats 2000000 in
theorem back1_in (F : Fence) (n : Nat) (hF : F.fn 189) (hro : F.round = none) (hn : 1 ≤ n) (l Bs base b o cap : Nat) (xs : List Rl) (hlen : xs.length ≤ 1099511627776) (hb : b < base) (J Jx : List IR → World → Prop)
    (hY : ∀ pre x W, J pre W → pre.length < xs.length → YieldAt F (n - 1) Tryz.prog l (encIR x) W fun e W' =>
      (e = .returned (.bool true) ∧ J (pre ++ [x]) W' ∧ KpB base Bs (.slice (some ⟨b, o, none⟩) xs.length cap) W W') ∨ (e = .returned (.bool false) ∧ Jx (pre ++ [x]) W'))
    (W : World) (hBs : Boxed W Bs 59 (.slice (some ⟨b, o, none⟩) xs.length cap)) (hr : RAt W b o xs) (h0 : J [] W) :
    CallsIn F n Tryz.prog 189 #[.func (.yield l) #[] #[], .pointer (some ⟨Bs, 0, none⟩)] W fun e W' => (∃ v, e = .returned v) ∧
      ((∃ ys, ys = came xs xs.length ∧ J ys W') ∨ (∃ pre, (∃ k, k ≤ xs.length ∧ pre = came xs k) ∧ Jx pre W')) := by
  have c0 := hBs.cell
  refine callsIn_of_wp Tryz.func189 rfl hF ?_ hro
  simp only [Tryz.ntmps189, List.size_toArray, List.length_cons, List.length_nil, Nat.reduceAdd, Nat.reduceSub, Array.replicate_succ, Array.replicate_zero, List.push_toArray, List.append_toArray, List.nil_append, List.cons_append]
  gi_wp2
  gi_loopw [3] (fun i wr => ∃ (m k : Nat) (I : Int), m + k = xs.length ∧ i = .int .i64 I ∧ I = (m : Int) - 1 ∧ J (came xs k) wr ∧ KpB base Bs (.slice (some ⟨b, o, none⟩) xs.length cap) W wr)
    (fun i _ => (intOf i + 1).toNat)
  case atStart => exact ⟨xs.length, 0, _, by omega, rfl, rfl, h0, kpB_refl _⟩
  case round =>
    obtain ⟨m, k, I, hmk, rfl, hI, hJs, hK⟩ := hrel
    have c1 := (hK.2 hBs).cell
    cases m with
    | zero =>
      obtain rfl : k = xs.length := by omega
      obtain rfl : I = -1 := by omega
      clear hI
      gi_wp2
      go_end0
      exact ⟨⟨_, rfl⟩, .inl ⟨_, rfl, hJs⟩⟩
    | succ j =>
      have hj : j < xs.length := by omega
      obtain ⟨r, hxj⟩ : ∃ r, xs[j]? = some r := ⟨_, List.getElem?_eq_getElem hj⟩
      obtain ⟨d0, d1, d2, d3, d4⟩ := (hr.below hK.1 hb).at hxj
      have hce : came xs (k + 1) = came xs k ++ [(j, r)] := by
        rw [came_succ, show xs.length - 1 - k = j by omega, hxj]
        rfl
      obtain ⟨fn, tmps, assign, body, hy, hR⟩ := hY _ (j, r) wr hJs (by rw [came_length]; omega)
      simp only [encIR] at hy
      obtain rfl : I = (j : Int) := by omega
      clear hI
      gi_wp2
      refine hR.mono ?_
      rintro e W3 (⟨rfl, hJ3, hk3⟩ | ⟨rfl, hJx3⟩)
      · gi_wp2
        go_roundw
        case rel => exact ⟨j, k + 1, _, by omega, rfl, rfl, by rw [hce]; exact hJ3, kpB_t hK hk3⟩
        case measure => simp [intOf]
      · gi_wp2
        refine bodyPost_ret (results_none rfl _ _ _) rfl ?_
        exact ⟨⟨_, rfl⟩, .inr ⟨_, ⟨k + 1, by omega, hce.symm⟩, hJx3⟩⟩

set_option maxRecDepth 100000 in
set_option maxHeartbeats 1000000 in
theorem back0_in (F : Fence) (n : Nat) (hF : F.fn 189) (hro : F.round = none) (l Bs : Nat) (A : Option Addr) (cap : Nat) (J : List IR → World → Prop) (W : World) (hBs : Boxed W Bs 59 (.slice A 0 cap)) (h0 : J [] W) :
    CallsIn F n Tryz.prog 189 #[.func (.yield l) #[] #[], .pointer (some ⟨Bs, 0, none⟩)] W fun e W' => (∃ v, e = .returned v) ∧ J [] W' := by
  have c0 := hBs.cell
  refine callsIn_of_wp Tryz.func189 rfl hF ?_ hro
  simp only [Tryz.ntmps189, List.size_toArray, List.length_cons, List.length_nil, Nat.reduceAdd, Nat.reduceSub, Array.replicate_succ, Array.replicate_zero, List.push_toArray, List.append_toArray, List.nil_append, List.cons_append]
  gi_wp2
  gi_loopw [3] (fun i wr => i = .int .i64 (-1) ∧ J [] wr) (fun _ _ => 0)
  case atStart => exact ⟨rfl, h0⟩
  case round =>
    obtain ⟨rfl, hJs⟩ := hrel
    gi_wp2
    go_end0
    exact ⟨⟨_, rfl⟩, hJs⟩

set_option maxHeartbeats 1000000 in
/-- slices.Backward: the slice is boxed, the function captures the box. -/
theorem back_in (F : Fence) (n : Nat) (hF : F.fn 184) (hro : F.round = none) (A : Option Addr) (len cap : Nat) (w : World) :
    CallsIn F n Tryz.prog 184 #[.slice A len cap] w fun e w' => e = .returned (.func (.func 189) #[] #[.pointer (some ⟨w.heap.size, 0, none⟩)]) ∧ w' = w.alloc (.cells #[.slice A len cap] 59) := by
  refine callsIn_of_wp Tryz.func184 rfl hF ?_ hro
  simp only [Tryz.ntmps184, List.size_toArray, List.length_cons, List.length_nil, Nat.reduceAdd, Nat.reduceSub, Array.replicate_succ, Array.replicate_zero, List.push_toArray, List.append_toArray, List.nil_append, List.cons_append]
  gi_wp2
  go_ret
  exact ⟨rfl, rfl⟩

/-- What slices.Backward hands back: all rules, from the last one on; or the first of these. -/
theorem back_stops (F : Fence) (n : Nat) (hF : F.fn 189) (hro : F.round = none) (hn : 1 ≤ n) (Bs base : Nat) (v : Value) (xs : List Rl) (hlen : xs.length ≤ 1099511627776) (w : World) (hbase : base ≤ w.heap.size)
    (hB : Boxed w Bs 59 v) (hR : Rules base w v xs) :
    SeqStopsK F n Tryz.prog 189 #[.pointer (some ⟨Bs, 0, none⟩)] encIR (KpB base Bs v) (fun ys => ys = came xs xs.length)
      (fun pre => ∃ k, k ≤ xs.length ∧ pre = came xs k) xs.length w := fun l J Jx W hW _ _ hY h0 => by
  have hB' : Boxed W Bs 59 v := (hW.block Bs hB.lt).trans hB
  obtain ⟨A, cap, rfl, h1, h2, h3, h4⟩ := hR.below (hW.mono hbase)
  by_cases hx : xs = []
  · subst hx
    exact (back0_in F n hF hro l Bs A cap J W hB' h0).mono fun e W' ⟨he, hj⟩ => ⟨he, .inl ⟨_, rfl, hj⟩⟩
  · obtain ⟨b, o, rfl, hb, hr⟩ := h4 hx
    exact back1_in F n hF hro hn l Bs base b o cap xs hlen hb J Jx hY W hB' hr h0
end Go.Proofs.YtlmmeppifkigeaaGreat

namespace Go.Proofs.YtlmmeppifkigeaaGreat
open Go.RowKit Go.Maps

/-- A fact kept from the walk. -/
structure Hd (p : Prop) : Prop where
  out : p

/-- The setting that bits are: variable 0 is the highest one. -/
def envOf (vars b : Nat) : Env := fun i => b.testBit (vars - 1 - i)


theorem intBits_and (a b : Nat) (ha : a < 9223372036854775808) (hb : b < 9223372036854775808) : Go.bits .and .i64 (a : Int) (b : Int) = ((a &&& b : Nat) : Int) := by
  have e1 : BitVec.ofInt 64 (a : Int) = BitVec.ofNat 64 a := by simp
  have e2 : BitVec.ofInt 64 (b : Int) = BitVec.ofNat 64 b := by simp
  have hle : a &&& b ≤ a := Nat.and_le_left
  have hm : (BitVec.ofNat 64 a &&& BitVec.ofNat 64 b).toNat = a &&& b := by
    simp [BitVec.toNat_and, Nat.mod_eq_of_lt (show a < 18446744073709551616 by omega), Nat.mod_eq_of_lt (show b < 18446744073709551616 by omega)]
  show IntKind.i64.wrap ((BitVec.ofInt 64 (a : Int) &&& BitVec.ofInt 64 (b : Int)).toNat : Int) = _
  rw [e1, e2, hm, IntWalk.i64_in _ (by omega)]
section
variable {base a M vars most : Nat} {w : World} {ns : List Nd}
theorem Ar.kalloc' {base a M vars most : Nat} {w : World} {ns : List Nd} (h : Ar base a M vars most w ns) (o : Obj) : Kp (ca base a M vars most) w (w.alloc o) :=
  ⟨rfl, rfl, rfl, by simp, fun i hi _ _ => Below.heap_alloc w o i hi, Or.inl (rowOf_same (Below.heap_alloc w o _ h.lta)), fun _ _ => cellB (Below.heap_alloc w o _ h.lta)⟩
end
end Go.Proofs.YtlmmeppifkigeaaGreat

namespace Go.Proofs.YtlmmeppifkigeaaGreat
open Go.RowKit Go.Maps

/-- Is the number that the variables from first on are in the set? -/
def sel : Nat → Nat → Nat → Env → Bool
  | 0, bits, _, _ => bits.testBit 0
  | k + 1, bits, first, x => if x first then sel k (bits >>> 2 ^ k) (first + 1) x else sel k (bits &&& (2 ^ 2 ^ k - 1)) (first + 1) x
/-- That number. -/
def val : Nat → Nat → Env → Nat
  | 0, _, _ => 0
  | k + 1, first, x => (if x first then 2 ^ k else 0) + val k (first + 1) x
theorem val_lt (k first : Nat) (x : Env) : val k first x < 2 ^ k := by
  induction k generalizing first with
  | zero => simp [val]
  | succ k ih =>
    have := ih (first + 1)
    rw [val, Nat.pow_succ]
    split <;> omega
theorem sel_val (k bits first : Nat) (x : Env) : sel k bits first x = bits.testBit (val k first x) := by
  induction k generalizing bits first with
  | zero => rfl
  | succ k ih =>
    have h := val_lt k (first + 1) x
    rw [sel, val]
    split
    · rw [ih, Nat.testBit_shiftRight]
    · rw [ih, Nat.testBit_and, Nat.testBit_two_pow_sub_one, Nat.zero_add]
      simp [h]

section
variable {base a M vars most : Nat} {w w' : World} {ns : List Nd}
theorem Ar.below (h : Ar base a M vars most w ns) (hb : Below w.heap.size w w') : Ar base a M vars most w' ns := by
  obtain ⟨_, _, _, rl⟩ := h.row
  exact h.same (hb.block _ h.lta) (hb.block _ h.ltM) (hb.block _ rl)
theorem Ar.kbelow (h : Ar base a M vars most w ns) (hb : Below w.heap.size w w') : Kp (ca base a M vars most) w w' :=
  ⟨hb.os, hb.tape, hb.output, hb.size, fun i hi _ _ => hb.block i hi, Or.inl (rowOf_same (hb.block _ h.lta)), fun _ _ => cellB (hb.block _ h.lta)⟩
theorem Ar.loc (h : Ar base a M vars most w ns) (cs : Array Value) (t : TypeId) : Loc (ca base a M vars most) (w.alloc (.cells cs t)) w.heap.size cs t := by
  obtain ⟨_, _, _, rl⟩ := h.row
  have la := h.lta
  have lM := h.ltM
  refine ⟨⟨by simp, ?_, ?_⟩, Go.heap_alloc_new _ _⟩
  · rintro (e | e | e | e | e | e)
    · have : w.heap.size = a := e
      omega
    · have : w.heap.size = a := e
      omega
    · have : w.heap.size = M := e
      omega
    · cases e
    · cases e
    · cases e
  · have e : rowOf (w.alloc (.cells cs t)) a = rowOf w a := rowOf_same (Below.heap_alloc w _ _ la)
    show w.heap.size ≠ rowOf (w.alloc (.cells cs t)) a
    rw [e]
    omega
theorem Loc.two {C : Cfg} {w : World} {i : Nat} {x y : Value} {t : TypeId} (h : Loc C w i #[x, y] t) : w.cell? ⟨i, 0, none⟩ = some x ∧ w.cell? ⟨i, 1, none⟩ = some y :=
  ⟨by rw [cell_of_row w i 0 _ _ _ h.blk]; rfl, by rw [cell_of_row w i 1 _ _ _ h.blk]; rfl⟩
theorem Loc.below {w w' : World} {i : Nat} {cs : Array Value} {t : TypeId} (h : Loc (ca base a M vars most) w i cs t) (hA : Ar base a M vars most w ns) (hb : Below w.heap.size w w') : Loc (ca base a M vars most) w' i cs t := h.kp (hA.kbelow hb)

/-- The same with a function alike. -/
theorem MkPost.of {g i : Nat} {φ ψ : Env → Bool} {e : Ending} (h : MkPost base a M vars most w ns g i φ e w') (hq : ∀ q, φ q = ψ q) : MkPost base a M vars most w ns g i ψ e w' := by
  obtain ⟨ns', r1, r2, r3, r4, r5⟩ := h
  refine ⟨ns', r1, r2, r3, r4, ?_⟩
  rcases r5 with ⟨f, e1, e2, e3, e4⟩ | r5
  · exact Or.inl ⟨f, e1, e2, e3, fun q => (e4 q).trans (hq q)⟩
  · exact Or.inr r5

/-- The same, its answer as two numbers. -/
theorem MkPost.pair {g i : Nat} {φ : Env → Bool} {e : Ending} (h : MkPost base a M vars most w ns g i φ e w') :
    ∃ (ns' : List Nd) (v er : Int), e = .returned (.tuple #[.int .i64 v, .int .i64 er]) ∧ Ar base a M vars most w' ns' ∧ Kp (ca base a M vars most) w w' ∧ Ext ns ns' ∧ ns'.length ≤ ns.length + g ∧
      Go.RowKit.Hid ((er = 0 ∧ ∃ f : Nat, v = (f : Int) ∧ f < ns'.length ∧ i ≤ nv ns' f ∧ ∀ x, ev ns' f x = φ x) ∨ (er = 6 ∧ v = 0 ∧ ns'.length = most)) := by
  obtain ⟨ns', r1, r2, r3, r4, ⟨f, e1, e2⟩ | ⟨e1, e2⟩⟩ := h
  · exact ⟨ns', f, 0, e1, r1, r2, r3, r4, Or.inl ⟨rfl, f, rfl, e2⟩⟩
  · exact ⟨ns', 0, 6, e1, r1, r2, r3, r4, Or.inr ⟨rfl, rfl, e2⟩⟩
theorem Ar.drew' (h : Ar base a M vars most w ns) : Ar base a M vars most w.drew ns := h.same rfl rfl rfl

set_option maxHeartbeats 1000000 in
theorem build_1 (h : Ar base a M vars most w ns) {bits first rest : Nat} (hbits : bits < 2) (hr : rest < ns.length) (hf : first ≤ nv ns rest) :
    Calls Tryz.prog 88 #[st (bits : Int) 1, .pointer (some ⟨a, 0, none⟩), .int .i64 (first : Int), .int .i64 (rest : Int)] w (MkPost base a M vars most w ns 0 first fun x => sel 0 bits first x && ev ns rest x) := by
  have l2 := h.wf.len
  have e0 : nv ns 0 = vars := by rw [nv, h.wf.n0]
  have hle := va_le h.wf hr
  have L0 := h.loc #[.int .i64 (bits : Int), .int .i64 1] 182
  have A0 := h.alloc (.cells #[.int .i64 (bits : Int), .int .i64 1] 182)
  have K0 := Ar.kalloc' h (.cells #[.int .i64 (bits : Int), .int .i64 1] 182)
  obtain ⟨c0, c1⟩ := L0.two
  have H0 : Go.RowKit.Hid (∀ w, Calls Tryz.prog 113 #[st (bits : Int) 1, .int .i64 0] w fun e w' => e = .returned (.bool (bits.testBit 0)) ∧ Below w.heap.size w w') := fun w => by
    have := has_any bits 0 1 w (by omega)
    rw [show hasB bits 0 = bits.testBit 0 by simp [hasB]] at this
    exact this
  cases ht : bits.testBit 0
  · rw [ht] at H0
    go_enter Tryz.func88, Tryz.ntmps88
    go_wp2_with fail
    refine (H0.out _).mono ?_
    rintro e w1 ⟨rfl, hb⟩
    have fin : MkPost base a M vars most w ns 0 first (fun x => sel 0 bits first x && ev ns rest x) (.returned (.tuple #[.int .i64 0, .int .i64 0])) w1 :=
      ⟨ns, A0.below hb, K0.trans (A0.kbelow hb), Ext.refl _, by omega, Or.inl ⟨0, rfl, by omega, by omega, fun x => by rw [ev0]; show false = (bits.testBit 0 && _); rw [ht]; rfl⟩⟩
    clear A0 K0 L0 hb
    go_wp2_with fail
    go_ret2
    exact fin
  · rw [ht] at H0
    go_enter Tryz.func88, Tryz.ntmps88
    go_wp2_with fail
    refine (H0.out _).mono ?_
    rintro e w1 ⟨rfl, hb⟩
    have fin : MkPost base a M vars most w ns 0 first (fun x => sel 0 bits first x && ev ns rest x) (.returned (.tuple #[.int .i64 (rest : Int), .int .i64 0])) w1 :=
      ⟨ns, A0.below hb, K0.trans (A0.kbelow hb), Ext.refl _, by omega, Or.inl ⟨rest, rfl, hr, hf, fun x => by show _ = (bits.testBit 0 && _); rw [ht]; rfl⟩⟩
    clear A0 K0 L0 hb
    go_wp2_with fail
    go_ret2
    exact fin

theorem low_2 (bits : Nat) (h : bits < 4) : Go.bits .and .i64 (bits : Int) 1 = ((bits &&& 1 : Nat) : Int) := intBits_and bits 1 (by omega) (by decide)
theorem high_2 (bits : Nat) : (bits : Int) / (2 : Int) = ((bits >>> 1 : Nat) : Int) := by rw [Nat.shiftRight_eq_div_pow]; simp

set_option maxHeartbeats 4000000 in
set_option maxRecDepth 100000 in
theorem build_2 (h : Ar base a M vars most w ns) {bits first rest : Nat} (hbits : bits < 4) (hv : first + 1 ≤ vars) (hr : rest < ns.length) (hf : first + 1 ≤ nv ns rest) :
    Calls Tryz.prog 88 #[st (bits : Int) 2, .pointer (some ⟨a, 0, none⟩), .int .i64 (first : Int), .int .i64 (rest : Int)] w (MkPost base a M vars most w ns 1 first fun x => sel 1 bits first x && ev ns rest x) := by
  have wf := h.wf
  have v16 := h.vars16
  have eL := low_2 bits hbits
  have eH := high_2 bits
  have hlo : bits &&& 1 < 2 := Nat.lt_of_le_of_lt Nat.and_le_right (by decide)
  have hhi : bits >>> 1 < 2 := by rw [Nat.shiftRight_eq_div_pow]; omega
  have hsel : Go.RowKit.Hid (∀ x, sel 1 bits first x = if x first then sel 0 (bits >>> 1) (first + 1) x else sel 0 (bits &&& 1) (first + 1) x) := fun x => rfl
  generalize bits &&& 1 = lo at *
  generalize bits >>> 1 = hi at *
  have L0 := h.loc #[.int .i64 (bits : Int), .int .i64 2] 182
  have A0 := h.alloc (.cells #[.int .i64 (bits : Int), .int .i64 2] 182)
  have K0 := Ar.kalloc' h (.cells #[.int .i64 (bits : Int), .int .i64 2] 182)
  obtain ⟨c0, c1⟩ := L0.two
  have hcast : ((first + 1 : Nat) : Int) = (first : Int) + 1 := by omega
  have IL : Go.RowKit.Hid (∀ (w' : World) (ns' : List Nd), Ar base a M vars most w' ns' → rest < ns'.length → first + 1 + 0 ≤ nv ns' rest → Calls Tryz.prog 88 #[st (lo : Int) 1, .pointer (some ⟨a, 0, none⟩), .int .i64 ((first : Int) + 1), .int .i64 (rest : Int)] w' (MkPost base a M vars most w' ns' 0 (first + 1) fun x => sel 0 lo (first + 1) x && ev ns' rest x)) := fun w' ns' hA hr hn => by
    have := build_1 hA (first := first + 1) hlo hr (by omega)
    rw [hcast] at this
    exact this
  have IH : Go.RowKit.Hid (∀ (w' : World) (ns' : List Nd), Ar base a M vars most w' ns' → rest < ns'.length → first + 1 + 0 ≤ nv ns' rest → Calls Tryz.prog 88 #[st (hi : Int) 1, .pointer (some ⟨a, 0, none⟩), .int .i64 ((first : Int) + 1), .int .i64 (rest : Int)] w' (MkPost base a M vars most w' ns' 0 (first + 1) fun x => sel 0 hi (first + 1) x && ev ns' rest x)) := fun w' ns' hA hr hn => by
    have := build_1 hA (first := first + 1) hhi hr (by omega)
    rw [hcast] at this
    exact this
  clear hcast
  have hwm : Go.RowKit.Hid (IntKind.i64.wrap (IntKind.i64.wrap 2 - 1) = 1) := by
    show _ = _
    rw [IntWalk.i64_in 2 (by omega), IntWalk.i64_in _ (by omega)]
    rfl
  have hwr : IntKind.i64.wrap ((first : Int) + 1) = (first : Int) + 1 := IntWalk.i64_in _ (by omega)
  have A0d := A0.drew'
  have L0d := L0.drew
  have K0d := K0.drew
  go_enter Tryz.func88, Tryz.ntmps88
  go_wp2_with fail
  go_region_held3 (fun w' => w'.cell? ⟨w.heap.size, 0, none⟩ = some (.int .i64 (bits : Int)) ∧ w'.cell? ⟨w.heap.size, 1, none⟩ = some (.int .i64 2))
    (exact Loc.two (by assumption))
    (first | (go_at_call 88; rw [hwm.out, eL]; refine (IL.out _ ns (by assumption) hr (by omega)).mono ?_; rintro e w2 hp2; obtain ⟨ns1, v1, er1, rfl, A1, K1, X1, l1, d1⟩ := hp2.pair; have L1 := L0d.kp K1; clear hp2))
  have wf1 := A1.wf
  have KK1 := K0d.trans K1
  obtain ⟨q0, q1⟩ := L1.two
  have hr1 : rest < ns1.length := Nat.lt_of_lt_of_le hr X1.len
  have hn1 : first + 1 + 0 ≤ nv ns1 rest := by rw [X1.va hr]; omega
  clear A0 K0 L0 c0 c1 A0d K0d L0d K1
  rcases d1.out with ⟨rfl, f1, rfl, lt1, va1, ev1'⟩ | ⟨rfl, rfl, full1⟩
  · have E1 : Go.RowKit.Hid (∀ x, ev ns1 f1 x = (sel 0 lo (first + 1) x && ev ns rest x)) := ev1'
    clear ev1' d1
    go_wp2_with fail
    refine (IH.out _ ns1 A1 hr1 hn1).mono ?_
    rintro e w3 hp3
    obtain ⟨ns2, v2, er2, rfl, A2, K2, X2, l2, d2⟩ := hp3.pair
    clear hp3
    have wf2 := A2.wf
    have KK2 := KK1.trans K2
    rcases d2.out with ⟨rfl, f2, rfl, lt2, va2, ev2'⟩ | ⟨rfl, rfl, full2⟩
    · have E2 : Go.RowKit.Hid (∀ x, ev ns2 f2 x = (sel 0 hi (first + 1) x && ev ns1 rest x)) := ev2'
      have lt1' : f1 < ns2.length := Nat.lt_of_lt_of_le lt1 X2.len
      have va1' : first < nv ns2 f1 := by rw [X2.va lt1]; omega
      have va2' : first < nv ns2 f2 := by omega
      clear ev2' d2 q0 q1 L1
      go_wp2_with fail
      refine (node_ok A2 (i := first) (lo := f1) (up := f2) (by omega) lt1' lt2 va1' va2').mono ?_
      rintro e w4 hp4
      have hp5 : MkPost base a M vars most w ns 1 first (fun x => sel 1 bits first x && ev ns rest x) e w4 := by
        obtain ⟨ns3, r1, r2, r3, r4, r5⟩ := hp4
        refine ⟨ns3, r1, KK2.trans r2, (X1.trans X2).trans r3, by omega, ?_⟩
        rcases r5 with ⟨f, e1, e2, e3, e4⟩ | r5
        · refine Or.inl ⟨f, e1, e2, e3, fun x => ?_⟩
          rw [e4 x]
          show (if x first = true then ev ns2 f2 x else ev ns2 f1 x) = (sel 1 bits first x && ev ns rest x)
          rw [hsel.out x, E2.out x, X2.ev wf1 wf2 _ lt1, E1.out x, X1.ev wf wf1 _ hr]
          cases x first <;> rfl
        · exact Or.inr r5
      clear hp4
      have hp6 := hp5
      obtain ⟨ns3, _, _, _, _, ⟨f', rfl, _⟩ | ⟨rfl, _⟩⟩ := hp5
      · go_wp2_with fail
        go_ret2
        exact hp6
      · go_wp2_with fail
        go_ret2
        exact hp6
    · have fin : MkPost base a M vars most w ns 1 first (fun x => sel 1 bits first x && ev ns rest x) (.returned (.tuple #[.int .i64 0, .int .i64 6])) w3 :=
        ⟨ns2, A2, KK2, X1.trans X2, by omega, Or.inr ⟨rfl, full2⟩⟩
      clear d2 A2 K2 KK2
      go_wp2_with fail
      go_ret2
      exact fin
  · have fin : MkPost base a M vars most w ns 1 first (fun x => sel 1 bits first x && ev ns rest x) (.returned (.tuple #[.int .i64 0, .int .i64 6])) w2 :=
      ⟨ns1, A1, KK1, X1, by omega, Or.inr ⟨rfl, full1⟩⟩
    clear d1 A1 KK1
    go_wp2_with fail
    go_ret2
    exact fin

theorem low_4 (bits : Nat) (h : bits < 16) : Go.bits .and .i64 (bits : Int) 3 = ((bits &&& 3 : Nat) : Int) := intBits_and bits 3 (by omega) (by decide)
theorem high_4 (bits : Nat) : (bits : Int) / (4 : Int) = ((bits >>> 2 : Nat) : Int) := by rw [Nat.shiftRight_eq_div_pow]; simp

set_option maxHeartbeats 4000000 in
set_option maxRecDepth 100000 in
theorem build_4 (h : Ar base a M vars most w ns) {bits first rest : Nat} (hbits : bits < 16) (hv : first + 2 ≤ vars) (hr : rest < ns.length) (hf : first + 2 ≤ nv ns rest) :
    Calls Tryz.prog 88 #[st (bits : Int) 4, .pointer (some ⟨a, 0, none⟩), .int .i64 (first : Int), .int .i64 (rest : Int)] w (MkPost base a M vars most w ns 3 first fun x => sel 2 bits first x && ev ns rest x) := by
  have wf := h.wf
  have v16 := h.vars16
  have eL := low_4 bits hbits
  have eH := high_4 bits
  have hlo : bits &&& 3 < 4 := Nat.lt_of_le_of_lt Nat.and_le_right (by decide)
  have hhi : bits >>> 2 < 4 := by rw [Nat.shiftRight_eq_div_pow]; omega
  have hsel : Go.RowKit.Hid (∀ x, sel 2 bits first x = if x first then sel 1 (bits >>> 2) (first + 1) x else sel 1 (bits &&& 3) (first + 1) x) := fun x => rfl
  generalize bits &&& 3 = lo at *
  generalize bits >>> 2 = hi at *
  have L0 := h.loc #[.int .i64 (bits : Int), .int .i64 4] 182
  have A0 := h.alloc (.cells #[.int .i64 (bits : Int), .int .i64 4] 182)
  have K0 := Ar.kalloc' h (.cells #[.int .i64 (bits : Int), .int .i64 4] 182)
  obtain ⟨c0, c1⟩ := L0.two
  have hcast : ((first + 1 : Nat) : Int) = (first : Int) + 1 := by omega
  have IL : Go.RowKit.Hid (∀ (w' : World) (ns' : List Nd), Ar base a M vars most w' ns' → rest < ns'.length → first + 1 + 1 ≤ nv ns' rest → Calls Tryz.prog 88 #[st (lo : Int) 2, .pointer (some ⟨a, 0, none⟩), .int .i64 ((first : Int) + 1), .int .i64 (rest : Int)] w' (MkPost base a M vars most w' ns' 1 (first + 1) fun x => sel 1 lo (first + 1) x && ev ns' rest x)) := fun w' ns' hA hr hn => by
    have := build_2 hA (first := first + 1) hlo (by omega) hr (by omega)
    rw [hcast] at this
    exact this
  have IH : Go.RowKit.Hid (∀ (w' : World) (ns' : List Nd), Ar base a M vars most w' ns' → rest < ns'.length → first + 1 + 1 ≤ nv ns' rest → Calls Tryz.prog 88 #[st (hi : Int) 2, .pointer (some ⟨a, 0, none⟩), .int .i64 ((first : Int) + 1), .int .i64 (rest : Int)] w' (MkPost base a M vars most w' ns' 1 (first + 1) fun x => sel 1 hi (first + 1) x && ev ns' rest x)) := fun w' ns' hA hr hn => by
    have := build_2 hA (first := first + 1) hhi (by omega) hr (by omega)
    rw [hcast] at this
    exact this
  clear hcast
  have hwm : Go.RowKit.Hid (IntKind.i64.wrap (IntKind.i64.wrap 4 - 1) = 3) := by
    show _ = _
    rw [IntWalk.i64_in 4 (by omega), IntWalk.i64_in _ (by omega)]
    rfl
  have hwr : IntKind.i64.wrap ((first : Int) + 1) = (first : Int) + 1 := IntWalk.i64_in _ (by omega)
  have A0d := A0.drew'
  have L0d := L0.drew
  have K0d := K0.drew
  go_enter Tryz.func88, Tryz.ntmps88
  go_wp2_with fail
  go_region_held3 (fun w' => w'.cell? ⟨w.heap.size, 0, none⟩ = some (.int .i64 (bits : Int)) ∧ w'.cell? ⟨w.heap.size, 1, none⟩ = some (.int .i64 4))
    (exact Loc.two (by assumption))
    (first | (go_at_call 88; rw [hwm.out, eL]; refine (IL.out _ ns (by assumption) hr (by omega)).mono ?_; rintro e w2 hp2; obtain ⟨ns1, v1, er1, rfl, A1, K1, X1, l1, d1⟩ := hp2.pair; have L1 := L0d.kp K1; clear hp2))
  have wf1 := A1.wf
  have KK1 := K0d.trans K1
  obtain ⟨q0, q1⟩ := L1.two
  have hr1 : rest < ns1.length := Nat.lt_of_lt_of_le hr X1.len
  have hn1 : first + 1 + 1 ≤ nv ns1 rest := by rw [X1.va hr]; omega
  clear A0 K0 L0 c0 c1 A0d K0d L0d K1
  rcases d1.out with ⟨rfl, f1, rfl, lt1, va1, ev1'⟩ | ⟨rfl, rfl, full1⟩
  · have E1 : Go.RowKit.Hid (∀ x, ev ns1 f1 x = (sel 1 lo (first + 1) x && ev ns rest x)) := ev1'
    clear ev1' d1
    go_wp2_with fail
    refine (IH.out _ ns1 A1 hr1 hn1).mono ?_
    rintro e w3 hp3
    obtain ⟨ns2, v2, er2, rfl, A2, K2, X2, l2, d2⟩ := hp3.pair
    clear hp3
    have wf2 := A2.wf
    have KK2 := KK1.trans K2
    rcases d2.out with ⟨rfl, f2, rfl, lt2, va2, ev2'⟩ | ⟨rfl, rfl, full2⟩
    · have E2 : Go.RowKit.Hid (∀ x, ev ns2 f2 x = (sel 1 hi (first + 1) x && ev ns1 rest x)) := ev2'
      have lt1' : f1 < ns2.length := Nat.lt_of_lt_of_le lt1 X2.len
      have va1' : first < nv ns2 f1 := by rw [X2.va lt1]; omega
      have va2' : first < nv ns2 f2 := by omega
      clear ev2' d2 q0 q1 L1
      go_wp2_with fail
      refine (node_ok A2 (i := first) (lo := f1) (up := f2) (by omega) lt1' lt2 va1' va2').mono ?_
      rintro e w4 hp4
      have hp5 : MkPost base a M vars most w ns 3 first (fun x => sel 2 bits first x && ev ns rest x) e w4 := by
        obtain ⟨ns3, r1, r2, r3, r4, r5⟩ := hp4
        refine ⟨ns3, r1, KK2.trans r2, (X1.trans X2).trans r3, by omega, ?_⟩
        rcases r5 with ⟨f, e1, e2, e3, e4⟩ | r5
        · refine Or.inl ⟨f, e1, e2, e3, fun x => ?_⟩
          rw [e4 x]
          show (if x first = true then ev ns2 f2 x else ev ns2 f1 x) = (sel 2 bits first x && ev ns rest x)
          rw [hsel.out x, E2.out x, X2.ev wf1 wf2 _ lt1, E1.out x, X1.ev wf wf1 _ hr]
          cases x first <;> rfl
        · exact Or.inr r5
      clear hp4
      have hp6 := hp5
      obtain ⟨ns3, _, _, _, _, ⟨f', rfl, _⟩ | ⟨rfl, _⟩⟩ := hp5
      · go_wp2_with fail
        go_ret2
        exact hp6
      · go_wp2_with fail
        go_ret2
        exact hp6
    · have fin : MkPost base a M vars most w ns 3 first (fun x => sel 2 bits first x && ev ns rest x) (.returned (.tuple #[.int .i64 0, .int .i64 6])) w3 :=
        ⟨ns2, A2, KK2, X1.trans X2, by omega, Or.inr ⟨rfl, full2⟩⟩
      clear d2 A2 K2 KK2
      go_wp2_with fail
      go_ret2
      exact fin
  · have fin : MkPost base a M vars most w ns 3 first (fun x => sel 2 bits first x && ev ns rest x) (.returned (.tuple #[.int .i64 0, .int .i64 6])) w2 :=
      ⟨ns1, A1, KK1, X1, by omega, Or.inr ⟨rfl, full1⟩⟩
    clear d1 A1 KK1
    go_wp2_with fail
    go_ret2
    exact fin

theorem low_8 (bits : Nat) (h : bits < 256) : Go.bits .and .i64 (bits : Int) 15 = ((bits &&& 15 : Nat) : Int) := intBits_and bits 15 (by omega) (by decide)
theorem high_8 (bits : Nat) : (bits : Int) / (16 : Int) = ((bits >>> 4 : Nat) : Int) := by rw [Nat.shiftRight_eq_div_pow]; simp

set_option maxHeartbeats 4000000 in
set_option maxRecDepth 100000 in
theorem build_8 (h : Ar base a M vars most w ns) {bits first rest : Nat} (hbits : bits < 256) (hv : first + 3 ≤ vars) (hr : rest < ns.length) (hf : first + 3 ≤ nv ns rest) :
    Calls Tryz.prog 88 #[st (bits : Int) 8, .pointer (some ⟨a, 0, none⟩), .int .i64 (first : Int), .int .i64 (rest : Int)] w (MkPost base a M vars most w ns 7 first fun x => sel 3 bits first x && ev ns rest x) := by
  have wf := h.wf
  have v16 := h.vars16
  have eL := low_8 bits hbits
  have eH := high_8 bits
  have hlo : bits &&& 15 < 16 := Nat.lt_of_le_of_lt Nat.and_le_right (by decide)
  have hhi : bits >>> 4 < 16 := by rw [Nat.shiftRight_eq_div_pow]; omega
  have hsel : Go.RowKit.Hid (∀ x, sel 3 bits first x = if x first then sel 2 (bits >>> 4) (first + 1) x else sel 2 (bits &&& 15) (first + 1) x) := fun x => rfl
  generalize bits &&& 15 = lo at *
  generalize bits >>> 4 = hi at *
  have L0 := h.loc #[.int .i64 (bits : Int), .int .i64 8] 182
  have A0 := h.alloc (.cells #[.int .i64 (bits : Int), .int .i64 8] 182)
  have K0 := Ar.kalloc' h (.cells #[.int .i64 (bits : Int), .int .i64 8] 182)
  obtain ⟨c0, c1⟩ := L0.two
  have hcast : ((first + 1 : Nat) : Int) = (first : Int) + 1 := by omega
  have IL : Go.RowKit.Hid (∀ (w' : World) (ns' : List Nd), Ar base a M vars most w' ns' → rest < ns'.length → first + 1 + 2 ≤ nv ns' rest → Calls Tryz.prog 88 #[st (lo : Int) 4, .pointer (some ⟨a, 0, none⟩), .int .i64 ((first : Int) + 1), .int .i64 (rest : Int)] w' (MkPost base a M vars most w' ns' 3 (first + 1) fun x => sel 2 lo (first + 1) x && ev ns' rest x)) := fun w' ns' hA hr hn => by
    have := build_4 hA (first := first + 1) hlo (by omega) hr (by omega)
    rw [hcast] at this
    exact this
  have IH : Go.RowKit.Hid (∀ (w' : World) (ns' : List Nd), Ar base a M vars most w' ns' → rest < ns'.length → first + 1 + 2 ≤ nv ns' rest → Calls Tryz.prog 88 #[st (hi : Int) 4, .pointer (some ⟨a, 0, none⟩), .int .i64 ((first : Int) + 1), .int .i64 (rest : Int)] w' (MkPost base a M vars most w' ns' 3 (first + 1) fun x => sel 2 hi (first + 1) x && ev ns' rest x)) := fun w' ns' hA hr hn => by
    have := build_4 hA (first := first + 1) hhi (by omega) hr (by omega)
    rw [hcast] at this
    exact this
  clear hcast
  have hwm : Go.RowKit.Hid (IntKind.i64.wrap (IntKind.i64.wrap 16 - 1) = 15) := by
    show _ = _
    rw [IntWalk.i64_in 16 (by omega), IntWalk.i64_in _ (by omega)]
    rfl
  have hwr : IntKind.i64.wrap ((first : Int) + 1) = (first : Int) + 1 := IntWalk.i64_in _ (by omega)
  have A0d := A0.drew'
  have L0d := L0.drew
  have K0d := K0.drew
  go_enter Tryz.func88, Tryz.ntmps88
  go_wp2_with fail
  go_region_held3 (fun w' => w'.cell? ⟨w.heap.size, 0, none⟩ = some (.int .i64 (bits : Int)) ∧ w'.cell? ⟨w.heap.size, 1, none⟩ = some (.int .i64 8))
    (exact Loc.two (by assumption))
    (first | (go_at_call 88; rw [hwm.out, eL]; refine (IL.out _ ns (by assumption) hr (by omega)).mono ?_; rintro e w2 hp2; obtain ⟨ns1, v1, er1, rfl, A1, K1, X1, l1, d1⟩ := hp2.pair; have L1 := L0d.kp K1; clear hp2))
  have wf1 := A1.wf
  have KK1 := K0d.trans K1
  obtain ⟨q0, q1⟩ := L1.two
  have hr1 : rest < ns1.length := Nat.lt_of_lt_of_le hr X1.len
  have hn1 : first + 1 + 2 ≤ nv ns1 rest := by rw [X1.va hr]; omega
  clear A0 K0 L0 c0 c1 A0d K0d L0d K1
  rcases d1.out with ⟨rfl, f1, rfl, lt1, va1, ev1'⟩ | ⟨rfl, rfl, full1⟩
  · have E1 : Go.RowKit.Hid (∀ x, ev ns1 f1 x = (sel 2 lo (first + 1) x && ev ns rest x)) := ev1'
    clear ev1' d1
    go_wp2_with fail
    refine (IH.out _ ns1 A1 hr1 hn1).mono ?_
    rintro e w3 hp3
    obtain ⟨ns2, v2, er2, rfl, A2, K2, X2, l2, d2⟩ := hp3.pair
    clear hp3
    have wf2 := A2.wf
    have KK2 := KK1.trans K2
    rcases d2.out with ⟨rfl, f2, rfl, lt2, va2, ev2'⟩ | ⟨rfl, rfl, full2⟩
    · have E2 : Go.RowKit.Hid (∀ x, ev ns2 f2 x = (sel 2 hi (first + 1) x && ev ns1 rest x)) := ev2'
      have lt1' : f1 < ns2.length := Nat.lt_of_lt_of_le lt1 X2.len
      have va1' : first < nv ns2 f1 := by rw [X2.va lt1]; omega
      have va2' : first < nv ns2 f2 := by omega
      clear ev2' d2 q0 q1 L1
      go_wp2_with fail
      refine (node_ok A2 (i := first) (lo := f1) (up := f2) (by omega) lt1' lt2 va1' va2').mono ?_
      rintro e w4 hp4
      have hp5 : MkPost base a M vars most w ns 7 first (fun x => sel 3 bits first x && ev ns rest x) e w4 := by
        obtain ⟨ns3, r1, r2, r3, r4, r5⟩ := hp4
        refine ⟨ns3, r1, KK2.trans r2, (X1.trans X2).trans r3, by omega, ?_⟩
        rcases r5 with ⟨f, e1, e2, e3, e4⟩ | r5
        · refine Or.inl ⟨f, e1, e2, e3, fun x => ?_⟩
          rw [e4 x]
          show (if x first = true then ev ns2 f2 x else ev ns2 f1 x) = (sel 3 bits first x && ev ns rest x)
          rw [hsel.out x, E2.out x, X2.ev wf1 wf2 _ lt1, E1.out x, X1.ev wf wf1 _ hr]
          cases x first <;> rfl
        · exact Or.inr r5
      clear hp4
      have hp6 := hp5
      obtain ⟨ns3, _, _, _, _, ⟨f', rfl, _⟩ | ⟨rfl, _⟩⟩ := hp5
      · go_wp2_with fail
        go_ret2
        exact hp6
      · go_wp2_with fail
        go_ret2
        exact hp6
    · have fin : MkPost base a M vars most w ns 7 first (fun x => sel 3 bits first x && ev ns rest x) (.returned (.tuple #[.int .i64 0, .int .i64 6])) w3 :=
        ⟨ns2, A2, KK2, X1.trans X2, by omega, Or.inr ⟨rfl, full2⟩⟩
      clear d2 A2 K2 KK2
      go_wp2_with fail
      go_ret2
      exact fin
  · have fin : MkPost base a M vars most w ns 7 first (fun x => sel 3 bits first x && ev ns rest x) (.returned (.tuple #[.int .i64 0, .int .i64 6])) w2 :=
      ⟨ns1, A1, KK1, X1, by omega, Or.inr ⟨rfl, full1⟩⟩
    clear d1 A1 KK1
    go_wp2_with fail
    go_ret2
    exact fin

theorem low_16 (bits : Nat) (h : bits < 65536) : Go.bits .and .i64 (bits : Int) 255 = ((bits &&& 255 : Nat) : Int) := intBits_and bits 255 (by omega) (by decide)
theorem high_16 (bits : Nat) : (bits : Int) / (256 : Int) = ((bits >>> 8 : Nat) : Int) := by rw [Nat.shiftRight_eq_div_pow]; simp

set_option maxHeartbeats 4000000 in
set_option maxRecDepth 100000 in
theorem build_16 (h : Ar base a M vars most w ns) {bits first rest : Nat} (hbits : bits < 65536) (hv : first + 4 ≤ vars) (hr : rest < ns.length) (hf : first + 4 ≤ nv ns rest) :
    Calls Tryz.prog 88 #[st (bits : Int) 16, .pointer (some ⟨a, 0, none⟩), .int .i64 (first : Int), .int .i64 (rest : Int)] w (MkPost base a M vars most w ns 15 first fun x => sel 4 bits first x && ev ns rest x) := by
  have wf := h.wf
  have v16 := h.vars16
  have eL := low_16 bits hbits
  have eH := high_16 bits
  have hlo : bits &&& 255 < 256 := Nat.lt_of_le_of_lt Nat.and_le_right (by decide)
  have hhi : bits >>> 8 < 256 := by rw [Nat.shiftRight_eq_div_pow]; omega
  have hsel : Go.RowKit.Hid (∀ x, sel 4 bits first x = if x first then sel 3 (bits >>> 8) (first + 1) x else sel 3 (bits &&& 255) (first + 1) x) := fun x => rfl
  generalize bits &&& 255 = lo at *
  generalize bits >>> 8 = hi at *
  have L0 := h.loc #[.int .i64 (bits : Int), .int .i64 16] 182
  have A0 := h.alloc (.cells #[.int .i64 (bits : Int), .int .i64 16] 182)
  have K0 := Ar.kalloc' h (.cells #[.int .i64 (bits : Int), .int .i64 16] 182)
  obtain ⟨c0, c1⟩ := L0.two
  have hcast : ((first + 1 : Nat) : Int) = (first : Int) + 1 := by omega
  have IL : Go.RowKit.Hid (∀ (w' : World) (ns' : List Nd), Ar base a M vars most w' ns' → rest < ns'.length → first + 1 + 3 ≤ nv ns' rest → Calls Tryz.prog 88 #[st (lo : Int) 8, .pointer (some ⟨a, 0, none⟩), .int .i64 ((first : Int) + 1), .int .i64 (rest : Int)] w' (MkPost base a M vars most w' ns' 7 (first + 1) fun x => sel 3 lo (first + 1) x && ev ns' rest x)) := fun w' ns' hA hr hn => by
    have := build_8 hA (first := first + 1) hlo (by omega) hr (by omega)
    rw [hcast] at this
    exact this
  have IH : Go.RowKit.Hid (∀ (w' : World) (ns' : List Nd), Ar base a M vars most w' ns' → rest < ns'.length → first + 1 + 3 ≤ nv ns' rest → Calls Tryz.prog 88 #[st (hi : Int) 8, .pointer (some ⟨a, 0, none⟩), .int .i64 ((first : Int) + 1), .int .i64 (rest : Int)] w' (MkPost base a M vars most w' ns' 7 (first + 1) fun x => sel 3 hi (first + 1) x && ev ns' rest x)) := fun w' ns' hA hr hn => by
    have := build_8 hA (first := first + 1) hhi (by omega) hr (by omega)
    rw [hcast] at this
    exact this
  clear hcast
  have hwm : Go.RowKit.Hid (IntKind.i64.wrap (IntKind.i64.wrap 256 - 1) = 255) := by
    show _ = _
    rw [IntWalk.i64_in 256 (by omega), IntWalk.i64_in _ (by omega)]
    rfl
  have hwr : IntKind.i64.wrap ((first : Int) + 1) = (first : Int) + 1 := IntWalk.i64_in _ (by omega)
  have A0d := A0.drew'
  have L0d := L0.drew
  have K0d := K0.drew
  go_enter Tryz.func88, Tryz.ntmps88
  go_wp2_with fail
  go_region_held3 (fun w' => w'.cell? ⟨w.heap.size, 0, none⟩ = some (.int .i64 (bits : Int)) ∧ w'.cell? ⟨w.heap.size, 1, none⟩ = some (.int .i64 16))
    (exact Loc.two (by assumption))
    (first | (go_at_call 88; rw [hwm.out, eL]; refine (IL.out _ ns (by assumption) hr (by omega)).mono ?_; rintro e w2 hp2; obtain ⟨ns1, v1, er1, rfl, A1, K1, X1, l1, d1⟩ := hp2.pair; have L1 := L0d.kp K1; clear hp2))
  have wf1 := A1.wf
  have KK1 := K0d.trans K1
  obtain ⟨q0, q1⟩ := L1.two
  have hr1 : rest < ns1.length := Nat.lt_of_lt_of_le hr X1.len
  have hn1 : first + 1 + 3 ≤ nv ns1 rest := by rw [X1.va hr]; omega
  clear A0 K0 L0 c0 c1 A0d K0d L0d K1
  rcases d1.out with ⟨rfl, f1, rfl, lt1, va1, ev1'⟩ | ⟨rfl, rfl, full1⟩
  · have E1 : Go.RowKit.Hid (∀ x, ev ns1 f1 x = (sel 3 lo (first + 1) x && ev ns rest x)) := ev1'
    clear ev1' d1
    go_wp2_with fail
    refine (IH.out _ ns1 A1 hr1 hn1).mono ?_
    rintro e w3 hp3
    obtain ⟨ns2, v2, er2, rfl, A2, K2, X2, l2, d2⟩ := hp3.pair
    clear hp3
    have wf2 := A2.wf
    have KK2 := KK1.trans K2
    rcases d2.out with ⟨rfl, f2, rfl, lt2, va2, ev2'⟩ | ⟨rfl, rfl, full2⟩
    · have E2 : Go.RowKit.Hid (∀ x, ev ns2 f2 x = (sel 3 hi (first + 1) x && ev ns1 rest x)) := ev2'
      have lt1' : f1 < ns2.length := Nat.lt_of_lt_of_le lt1 X2.len
      have va1' : first < nv ns2 f1 := by rw [X2.va lt1]; omega
      have va2' : first < nv ns2 f2 := by omega
      clear ev2' d2 q0 q1 L1
      go_wp2_with fail
      refine (node_ok A2 (i := first) (lo := f1) (up := f2) (by omega) lt1' lt2 va1' va2').mono ?_
      rintro e w4 hp4
      have hp5 : MkPost base a M vars most w ns 15 first (fun x => sel 4 bits first x && ev ns rest x) e w4 := by
        obtain ⟨ns3, r1, r2, r3, r4, r5⟩ := hp4
        refine ⟨ns3, r1, KK2.trans r2, (X1.trans X2).trans r3, by omega, ?_⟩
        rcases r5 with ⟨f, e1, e2, e3, e4⟩ | r5
        · refine Or.inl ⟨f, e1, e2, e3, fun x => ?_⟩
          rw [e4 x]
          show (if x first = true then ev ns2 f2 x else ev ns2 f1 x) = (sel 4 bits first x && ev ns rest x)
          rw [hsel.out x, E2.out x, X2.ev wf1 wf2 _ lt1, E1.out x, X1.ev wf wf1 _ hr]
          cases x first <;> rfl
        · exact Or.inr r5
      clear hp4
      have hp6 := hp5
      obtain ⟨ns3, _, _, _, _, ⟨f', rfl, _⟩ | ⟨rfl, _⟩⟩ := hp5
      · go_wp2_with fail
        go_ret2
        exact hp6
      · go_wp2_with fail
        go_ret2
        exact hp6
    · have fin : MkPost base a M vars most w ns 15 first (fun x => sel 4 bits first x && ev ns rest x) (.returned (.tuple #[.int .i64 0, .int .i64 6])) w3 :=
        ⟨ns2, A2, KK2, X1.trans X2, by omega, Or.inr ⟨rfl, full2⟩⟩
      clear d2 A2 K2 KK2
      go_wp2_with fail
      go_ret2
      exact fin
  · have fin : MkPost base a M vars most w ns 15 first (fun x => sel 4 bits first x && ev ns rest x) (.returned (.tuple #[.int .i64 0, .int .i64 6])) w2 :=
      ⟨ns1, A1, KK1, X1, by omega, Or.inr ⟨rfl, full1⟩⟩
    clear d1 A1 KK1
    go_wp2_with fail
    go_ret2
    exact fin

end
end Go.Proofs.YtlmmeppifkigeaaGreat
