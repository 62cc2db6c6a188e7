/-
  What a set of numbers has, and what a match has: package match's calls addrs, ports, has, In and All.
-/
import Derived.Test.YthioedgnambomaaGreatLy
import Derived.Test.YthioedgnambomaaGreatProg
import Derived.WalkKit
import Derived.WalkSpells
import Derived.WalkLawsBesides
import Derived.Handy
import Derived.BigQuiet
import Derived.Deep.QuietTactic
import Derived.Deep.RegionHeld3
import Derived.Deep.DeepCutAuto
import Derived.Laws.AppendOwn
import Derived.Test.YthioedgnambomaaGreatXAE
import Derived.Test.YthioedgnambomaaGreatXAA
import Derived.Test.YthioedgnambomaaGreatXAC
import Derived.Laws.EntriesVeiled
namespace Go.Proofs.YthioedgnambomaaGreat
open Go.RowKit

/-- A set: its bits, its size. -/
abbrev st (b n : Int) : Value := .agg #[.int .i64 b, .int .i64 n]
/-- A match. -/
abbrev mt (a b c d : Nat) : Value := .agg #[.int .u16 (a : Int), .int .u16 (b : Int), .int .u8 (c : Int), .int .u8 (d : Int)]
abbrev pk (a b c d : Int) : Value := .agg #[.int .i64 a, .int .i64 b, .int .i64 c, .int .i64 d]
/-- Is a number in a set? -/
def hasB (b : Nat) (n : Int) : Bool := decide (0 ≤ n) && b.testBit n.toNat

theorem chain {W0 W w' : World} (hb : Below W.heap.size W w') (h : Below W0.heap.size W0 W) : Below W0.heap.size W0 w' := h.trans (hb.mono h.size)
theorem Below.alloc' {W0 w : World} (h : Below W0.heap.size W0 w) (o : Obj) : Below W0.heap.size W0 (w.alloc o) := h.alloc h.size o

/-- Four cells lie in a block of their own. -/
def Four (w : World) (n : Nat) (a b c d : Value) : Prop :=
  n < w.heap.size ∧ w.cell? ⟨n, 0, none⟩ = some a ∧ w.cell? ⟨n, 1, none⟩ = some b ∧ w.cell? ⟨n, 2, none⟩ = some c ∧ w.cell? ⟨n, 3, none⟩ = some d
theorem keepFour {W w' : World} {n : Nat} {a b c d : Value} (hb : Below W.heap.size W w') (h : Four W n a b c d) : Four w' n a b c d := by
  obtain ⟨h0, h1, h2, h3, h4⟩ := h
  exact ⟨Nat.lt_of_lt_of_le h0 hb.size, (hb.cell (p := ⟨n, 0, none⟩) h0).trans h1, (hb.cell (p := ⟨n, 1, none⟩) h0).trans h2, (hb.cell (p := ⟨n, 2, none⟩) h0).trans h3, (hb.cell (p := ⟨n, 3, none⟩) h0).trans h4⟩
theorem Four.drew {w : World} {n : Nat} {a b c d : Value} (h : Four w n a b c d) : Four w.drew n a b c d := h
theorem four_new (w : World) (a b c d : Value) (t : TypeId) : Four (w.alloc (.cells #[a, b, c, d] t)) w.heap.size a b c d :=
  ⟨by simp, by simp [go_sem], by simp [go_sem], by simp [go_sem], by simp [go_sem]⟩
theorem allocFour {w : World} {n : Nat} {a b c d : Value} (h : Four w n a b c d) (o : Obj) : Four (w.alloc o) n a b c d := keepFour ((Below.refl _ _).alloc (Nat.le_refl _) o) h
theorem two_fours {w' : World} {n1 n2 : Nat} {a1 b1 c1 d1 a2 b2 c2 d2 : Value} (h1 : Four w' n1 a1 b1 c1 d1) (h2 : Four w' n2 a2 b2 c2 d2) :
    w'.cell? ⟨n1, 0, none⟩ = some a1 ∧ w'.cell? ⟨n1, 1, none⟩ = some b1 ∧ w'.cell? ⟨n1, 2, none⟩ = some c1 ∧ w'.cell? ⟨n1, 3, none⟩ = some d1 ∧
    w'.cell? ⟨n2, 0, none⟩ = some a2 ∧ w'.cell? ⟨n2, 1, none⟩ = some b2 ∧ w'.cell? ⟨n2, 2, none⟩ = some c2 ∧ w'.cell? ⟨n2, 3, none⟩ = some d2 :=
  ⟨h1.2.1, h1.2.2.1, h1.2.2.2.1, h1.2.2.2.2, h2.2.1, h2.2.2.1, h2.2.2.2.1, h2.2.2.2.2⟩

theorem addrs_any (b : Nat) (w : World) (h1 : b < 65536) :
    Calls Tryz.prog 105 #[.int .u16 (b : Int)] w fun e w' => e = .returned (st b 16) ∧ Below w.heap.size w w' := by
  go_enter Tryz.func105, Tryz.ntmps105
  go_wp2_with fail
  exact bodyPost_ret (v := st b 16) (by simp [results, Tryz.results105, go_sem]) rfl ⟨rfl, by go_grown⟩
theorem ports_any (b : Nat) (w : World) (h1 : b < 256) :
    Calls Tryz.prog 107 #[.int .u8 (b : Int)] w fun e w' => e = .returned (st b 8) ∧ Below w.heap.size w w' := by
  go_enter Tryz.func107, Tryz.ntmps107
  go_wp2_with fail
  exact bodyPost_ret (v := st b 8) (by simp [results, Tryz.results107, go_sem]) rfl ⟨rfl, by go_grown⟩
theorem shr_any (b n : Nat) (hb : b < 2 ^ 62) : Op.shift .shr .i64 (b : Int) .i64 (n : Int) = (pure (.int .i64 ((b >>> n : Nat) : Int)) : Sem Value) := by
  by_cases h : n ≤ 64
  · rw [shift_shr _ _ _ _ (by omega) (by show (n : Int) ≤ 64; omega), Nat.shiftRight_eq_div_pow, Int.toNat_natCast]
    simp
  · have hp : 2 ^ 64 ≤ 2 ^ n := Nat.pow_le_pow_right (by omega) (by omega)
    have e : b >>> n = 0 := by rw [Nat.shiftRight_eq_div_pow, Nat.div_eq_of_lt (by omega)]
    have hm : min n IntKind.i64.bits = 64 := by show min n 64 = 64; omega
    have hf : (b : Int).fdiv (2 ^ 64) = 0 := by
      rw [Int.fdiv_eq_ediv_of_nonneg _ (by decide), Int.ediv_eq_zero_of_lt (by omega) (by omega)]
    rw [e]
    simp only [Op.shift, Int.toNat_natCast, hm, hf]
    rw [if_neg (by omega)]
    rfl
theorem bits_one (q : Nat) (hq : q < 2 ^ 62) : (Go.bits .and .i64 (q : Int) 1 == 1) = (q % 2 == 1) := by
  have e1 : BitVec.ofInt 64 (q : Int) = BitVec.ofNat 64 q := by simp
  have hm : (BitVec.ofNat 64 q &&& BitVec.ofInt 64 1).toNat = q % 2 := by
    rw [show BitVec.ofInt 64 1 = BitVec.ofNat 64 1 by rfl, BitVec.toNat_and, BitVec.toNat_ofNat, BitVec.toNat_ofNat, Nat.mod_eq_of_lt (show q < 2 ^ 64 by omega)]
    exact Nat.and_one_is_mod q
  have e2 : Go.bits .and .i64 (q : Int) 1 = ((q % 2 : Nat) : Int) := by
    show IntKind.i64.wrap ((BitVec.ofInt 64 (q : Int) &&& BitVec.ofInt 64 1).toNat : Int) = _
    rw [e1, hm, IntWalk.i64_in _ (by omega)]
  rw [e2]
  have : q % 2 = 0 ∨ q % 2 = 1 := by omega
  rcases this with h | h <;> rw [h] <;> rfl

set_option maxHeartbeats 400000 in
theorem has_any (b : Nat) (n z : Int) (w : World) (h1 : b < 65536) :
    Calls Tryz.prog 106 #[st b z, .int .i64 n] w fun e w' => e = .returned (.bool (hasB b n)) ∧ Below w.heap.size w w' := by
  by_cases hn : 0 ≤ n
  · obtain ⟨k, rfl⟩ : ∃ k : Nat, n = k := ⟨n.toNat, by omega⟩
    have t : decide (0 ≤ (k : Int)) = true := by simp
    have hs := shr_any b k (by omega)
    have hle : b >>> k ≤ b := by rw [Nat.shiftRight_eq_div_pow]; exact Nat.div_le_self _ _
    have he : Hid ((Go.bits .and .i64 ((b >>> k : Nat) : Int) 1 == 1) = hasB b k) := by
      show _ = _
      rw [bits_one _ (by omega), hasB, t, Bool.true_and, Int.toNat_natCast, Nat.testBit, Nat.one_and_eq_mod_two]
      have : (b >>> k) % 2 = 0 ∨ (b >>> k) % 2 = 1 := by omega
      rcases this with h | h <;> rw [h] <;> rfl
    clear hn hle
    generalize b >>> k = q at *
    go_enter Tryz.func106, Tryz.ntmps106
    go_wp2_with fail
    go_ret
    refine ⟨?_, by go_grown⟩
    rw [← he.out]
    simp
  · have t : decide (0 ≤ n) = false := by simp; omega
    have e : hasB b n = false := by unfold hasB; rw [t, Bool.false_and]
    rw [e]
    go_enter Tryz.func106, Tryz.ntmps106
    go_wp2_with fail
    go_ret
    exact ⟨rfl, by go_grown⟩

set_option maxHeartbeats 4000000 in
set_option maxRecDepth 100000 in
theorem in_case (a b c d : Nat) (p q r s : Int) (w : World) (x0 x1 x2 x3 : Bool)
    (hA : Hid (∀ w, Calls Tryz.prog 105 #[.int .u16 (a : Int)] w fun e w' => e = .returned (st a 16) ∧ Below w.heap.size w w'))
    (hB : Hid (∀ w, Calls Tryz.prog 105 #[.int .u16 (b : Int)] w fun e w' => e = .returned (st b 16) ∧ Below w.heap.size w w'))
    (hC : Hid (∀ w, Calls Tryz.prog 107 #[.int .u8 (c : Int)] w fun e w' => e = .returned (st c 8) ∧ Below w.heap.size w w'))
    (hD : Hid (∀ w, Calls Tryz.prog 107 #[.int .u8 (d : Int)] w fun e w' => e = .returned (st d 8) ∧ Below w.heap.size w w'))
    (h0 : Hid (∀ w, Calls Tryz.prog 106 #[st a 16, .int .i64 p] w fun e w' => e = .returned (.bool x0) ∧ Below w.heap.size w w'))
    (h1 : Hid (∀ w, Calls Tryz.prog 106 #[st b 16, .int .i64 q] w fun e w' => e = .returned (.bool x1) ∧ Below w.heap.size w w'))
    (h2 : Hid (∀ w, Calls Tryz.prog 106 #[st c 8, .int .i64 r] w fun e w' => e = .returned (.bool x2) ∧ Below w.heap.size w w'))
    (h3 : Hid (∀ w, Calls Tryz.prog 106 #[st d 8, .int .i64 s] w fun e w' => e = .returned (.bool x3) ∧ Below w.heap.size w w')) :
    Calls Tryz.prog 103 #[mt a b c d, pk p q r s] w fun e w' => e = .returned (.bool (x0 && x1 && x2 && x3)) ∧ Below w.heap.size w w' := by
  have F1 := (allocFour (four_new w (.int .u16 (a : Int)) (.int .u16 (b : Int)) (.int .u8 (c : Int)) (.int .u8 (d : Int)) 110) (.cells #[.int .i64 p, .int .i64 q, .int .i64 r, .int .i64 s] 29)).drew
  have F2 := (four_new (w.alloc (.cells #[.int .u16 (a : Int), .int .u16 (b : Int), .int .u8 (c : Int), .int .u8 (d : Int)] 110)) (.int .i64 p) (.int .i64 q) (.int .i64 r) (.int .i64 s) 29).drew
  have D1 := (Below.alloc' (Below.alloc' (Below.refl w.heap.size w) (.cells #[.int .u16 (a : Int), .int .u16 (b : Int), .int .u8 (c : Int), .int .u8 (d : Int)] 110)) (.cells #[.int .i64 p, .int .i64 q, .int .i64 r, .int .i64 s] 29)).drew
  rw [show (w.alloc (.cells #[.int .u16 (a : Int), .int .u16 (b : Int), .int .u8 (c : Int), .int .u8 (d : Int)] 110)).heap.size = w.heap.size + 1 by simp] at F2
  cases x0
  · go_enter Tryz.func103, Tryz.ntmps103
    go_wp2_with fail
    refine wp_region_held_drew (S := (fun w' => w'.cell? ⟨w.heap.size, 0, none⟩ = some (.int .u16 (a : Int)) ∧ w'.cell? ⟨w.heap.size, 1, none⟩ = some (.int .u16 (b : Int)) ∧ w'.cell? ⟨w.heap.size, 2, none⟩ = some (.int .u8 (c : Int)) ∧ w'.cell? ⟨w.heap.size, 3, none⟩ = some (.int .u8 (d : Int)) ∧ w'.cell? ⟨w.heap.size + 1, 0, none⟩ = some (.int .i64 p) ∧ w'.cell? ⟨w.heap.size + 1, 1, none⟩ = some (.int .i64 q) ∧ w'.cell? ⟨w.heap.size + 1, 2, none⟩ = some (.int .i64 r) ∧ w'.cell? ⟨w.heap.size + 1, 3, none⟩ = some (.int .i64 s))) (by kernel_rfl) (two_fours (by assumption) (by assumption)) (fun hHeld => ?_)
    refine' tk 0 rfl (by kernel_rfl) (fun _ _ _ h => h) (by rfl) (by assumption) ?y1 ?r1
    case y1 => (intro w h; (try dsimp only at h); go_simp; (try with_reducible rfl))
    try simp only [lays]
    refine' tk 1 rfl (by kernel_rfl) (fun _ _ _ h => h) (by rfl) (by assumption) ?y2 ?r2
    case y2 => (intro w h; (try dsimp only at h); go_simp; (try with_reducible rfl))
    try simp only [lays]
    refine' tk 3 rfl (by kernel_rfl) (fun _ _ _ h => h) (by rfl) (by assumption) ?y3 ?r3
    case y3 => (intro w h; (try dsimp only at h); go_simp; (try with_reducible rfl))
    try simp only [lays]
    refine' tk 4 rfl (by kernel_rfl) (fun _ _ _ h => h) (by rfl) (by assumption) ?y4 ?r4
    case y4 => (intro w h; (try dsimp only at h); go_simp; (try with_reducible rfl))
    try simp only [lays]
    refine wpAnyH_ready (rs := [2]) (by kernel_rfl) (by simp) (AllReadyH.cons rfl (fun K hK => ?_) AllReadyH.nil)
    go_simp
    refine (hA.out _).mono ?_; rintro e wz ⟨rfl, hbz⟩; have Dz := chain hbz (by assumption); have Pz := keepFour (n := w.heap.size) hbz (by assumption); have Qz := keepFour (n := w.heap.size + 1) hbz (by assumption); clear hbz
    try go_wp2_with fail
    clear hHeld
    refine hK.out _ _ (two_fours (by assumption) (by assumption)) (fun hHeld => ?_)
    clear hK K
    try simp only [lays]
    refine wpAnyH_ready (rs := [5]) (by kernel_rfl) (by simp) (AllReadyH.cons rfl (fun K hK => ?_) AllReadyH.nil)
    go_simp
    refine (h0.out _).mono ?_; rintro e wz ⟨rfl, hbz⟩; have Dz := chain hbz (by assumption); have Pz := keepFour (n := w.heap.size) hbz (by assumption); have Qz := keepFour (n := w.heap.size + 1) hbz (by assumption); clear hbz
    try go_wp2_with fail
    clear hHeld
    refine hK.out _ _ (two_fours (by assumption) (by assumption)) (fun hHeld => ?_)
    clear hK K
    try simp only [lays]
    refine' tk 6 rfl (by kernel_rfl) (fun _ _ _ h => h) (by rfl) (by assumption) ?y7 ?r7
    case y7 => (intro w h; (try dsimp only at h); go_simp; (try with_reducible rfl))
    try simp only [lays]
    refine' tk0 7 rfl (by kernel_rfl) (fun _ _ _ h => h) (by rfl) (by assumption) ?_
    try simp only [lays]
    refine' tk0 8 rfl (by kernel_rfl) (fun _ _ _ h => h) (by rfl) (by assumption) ?_
    try simp only [lays]
    refine' tk0 9 rfl (by kernel_rfl) (fun _ _ _ h => h) (by rfl) (by assumption) ?_
    try simp only [lays]
    refine' tk0 10 rfl (by kernel_rfl) (fun _ _ _ h => h) (by rfl) (by assumption) ?_
    try simp only [lays]
    refine' tk0 11 rfl (by kernel_rfl) (fun _ _ _ h => h) (by rfl) (by assumption) ?_
    try simp only [lays]
    refine' tk0 12 rfl (by kernel_rfl) (fun _ _ _ h => h) (by rfl) (by assumption) ?_
    try simp only [lays]
    refine' tk 13 rfl (by kernel_rfl) (fun _ _ _ h => h) (by rfl) (by assumption) ?y14 ?r14
    case y14 => (intro w h; (try dsimp only at h); go_simp; (try with_reducible rfl))
    try simp only [lays]
    refine' tk 14 rfl (by kernel_rfl) (fun _ _ _ h => h) (by rfl) (by assumption) ?y15 ?r15
    case y15 => (intro w h; (try dsimp only at h); go_simp; (try with_reducible rfl))
    try simp only [lays]
    refine' tk0 15 rfl (by kernel_rfl) (fun _ _ _ h => h) (by rfl) (by assumption) ?_
    try simp only [lays]
    refine' tk0 16 rfl (by kernel_rfl) (fun _ _ _ h => h) (by rfl) (by assumption) ?_
    try simp only [lays]
    refine' tk0 17 rfl (by kernel_rfl) (fun _ _ _ h => h) (by rfl) (by assumption) ?_
    try simp only [lays]
    refine' tk0 18 rfl (by kernel_rfl) (fun _ _ _ h => h) (by rfl) (by assumption) ?_
    try simp only [lays]
    refine' tk0 19 rfl (by kernel_rfl) (fun _ _ _ h => h) (by rfl) (by assumption) ?_
    try simp only [lays]
    refine' tk0 20 rfl (by kernel_rfl) (fun _ _ _ h => h) (by rfl) (by assumption) ?_
    try simp only [lays]
    refine' tk 21 rfl (by kernel_rfl) (fun _ _ _ h => h) (by rfl) (by assumption) ?y22 ?r22
    case y22 => (intro w h; (try dsimp only at h); go_simp; (try with_reducible rfl))
    try simp only [lays]
    refine' tk 22 rfl (by kernel_rfl) (fun _ _ _ h => h) (by rfl) (by assumption) ?y23 ?r23
    case y23 => (intro w h; (try dsimp only at h); go_simp; (try with_reducible rfl))
    try simp only [lays]
    refine' tk0 23 rfl (by kernel_rfl) (fun _ _ _ h => h) (by rfl) (by assumption) ?_
    try simp only [lays]
    refine' tk0 24 rfl (by kernel_rfl) (fun _ _ _ h => h) (by rfl) (by assumption) ?_
    try simp only [lays]
    refine' tk0 25 rfl (by kernel_rfl) (fun _ _ _ h => h) (by rfl) (by assumption) ?_
    try simp only [lays]
    refine' tk0 26 rfl (by kernel_rfl) (fun _ _ _ h => h) (by rfl) (by assumption) ?_
    try simp only [lays]
    refine' tk0 27 rfl (by kernel_rfl) (fun _ _ _ h => h) (by rfl) (by assumption) ?_
    try simp only [lays]
    refine' tk0 28 rfl (by kernel_rfl) (fun _ _ _ h => h) (by rfl) (by assumption) ?_
    try simp only [lays]
    refine' tk 29 rfl (by kernel_rfl) (fun _ _ _ h => h) (by rfl) (by assumption) ?y30 ?r30
    case y30 => (intro w h; (try dsimp only at h); go_simp; (try with_reducible rfl))
    try simp only [lays]
    refine' tk 30 rfl (by kernel_rfl) (fun _ _ _ h => h) (by rfl) (by assumption) ?y31 ?r31
    case y31 => (intro w h; (try dsimp only at h); go_simp; (try with_reducible rfl))
    try simp only [lays]
    refine wpAnyH_done (by kernel_rfl) ?_ _
    go_wp2
    go_ret
    exact ⟨by simp, by assumption⟩
  · cases x1
    · go_enter Tryz.func103, Tryz.ntmps103
      go_wp2_with fail
      refine wp_region_held_drew (S := (fun w' => w'.cell? ⟨w.heap.size, 0, none⟩ = some (.int .u16 (a : Int)) ∧ w'.cell? ⟨w.heap.size, 1, none⟩ = some (.int .u16 (b : Int)) ∧ w'.cell? ⟨w.heap.size, 2, none⟩ = some (.int .u8 (c : Int)) ∧ w'.cell? ⟨w.heap.size, 3, none⟩ = some (.int .u8 (d : Int)) ∧ w'.cell? ⟨w.heap.size + 1, 0, none⟩ = some (.int .i64 p) ∧ w'.cell? ⟨w.heap.size + 1, 1, none⟩ = some (.int .i64 q) ∧ w'.cell? ⟨w.heap.size + 1, 2, none⟩ = some (.int .i64 r) ∧ w'.cell? ⟨w.heap.size + 1, 3, none⟩ = some (.int .i64 s))) (by kernel_rfl) (two_fours (by assumption) (by assumption)) (fun hHeld => ?_)
      refine' tk 0 rfl (by kernel_rfl) (fun _ _ _ h => h) (by rfl) (by assumption) ?y33 ?r33
      case y33 => (intro w h; (try dsimp only at h); go_simp; (try with_reducible rfl))
      try simp only [lays]
      refine' tk 1 rfl (by kernel_rfl) (fun _ _ _ h => h) (by rfl) (by assumption) ?y34 ?r34
      case y34 => (intro w h; (try dsimp only at h); go_simp; (try with_reducible rfl))
      try simp only [lays]
      refine' tk 3 rfl (by kernel_rfl) (fun _ _ _ h => h) (by rfl) (by assumption) ?y35 ?r35
      case y35 => (intro w h; (try dsimp only at h); go_simp; (try with_reducible rfl))
      try simp only [lays]
      refine' tk 4 rfl (by kernel_rfl) (fun _ _ _ h => h) (by rfl) (by assumption) ?y36 ?r36
      case y36 => (intro w h; (try dsimp only at h); go_simp; (try with_reducible rfl))
      try simp only [lays]
      refine wpAnyH_ready (rs := [2]) (by kernel_rfl) (by simp) (AllReadyH.cons rfl (fun K hK => ?_) AllReadyH.nil)
      go_simp
      refine (hA.out _).mono ?_; rintro e wz ⟨rfl, hbz⟩; have Dz := chain hbz (by assumption); have Pz := keepFour (n := w.heap.size) hbz (by assumption); have Qz := keepFour (n := w.heap.size + 1) hbz (by assumption); clear hbz
      try go_wp2_with fail
      clear hHeld
      refine hK.out _ _ (two_fours (by assumption) (by assumption)) (fun hHeld => ?_)
      clear hK K
      try simp only [lays]
      refine wpAnyH_ready (rs := [5]) (by kernel_rfl) (by simp) (AllReadyH.cons rfl (fun K hK => ?_) AllReadyH.nil)
      go_simp
      refine (h0.out _).mono ?_; rintro e wz ⟨rfl, hbz⟩; have Dz := chain hbz (by assumption); have Pz := keepFour (n := w.heap.size) hbz (by assumption); have Qz := keepFour (n := w.heap.size + 1) hbz (by assumption); clear hbz
      try go_wp2_with fail
      clear hHeld
      refine hK.out _ _ (two_fours (by assumption) (by assumption)) (fun hHeld => ?_)
      clear hK K
      try simp only [lays]
      refine' tk 6 rfl (by kernel_rfl) (fun _ _ _ h => h) (by rfl) (by assumption) ?y39 ?r39
      case y39 => (intro w h; (try dsimp only at h); go_simp; (try with_reducible rfl))
      try simp only [lays]
      refine' tk 7 rfl (by kernel_rfl) (fun _ _ _ h => h) (by rfl) (by assumption) ?y40 ?r40
      case y40 => (intro w h; (try dsimp only at h); go_simp; (try with_reducible rfl))
      try simp only [lays]
      refine' tk 8 rfl (by kernel_rfl) (fun _ _ _ h => h) (by rfl) (by assumption) ?y41 ?r41
      case y41 => (intro w h; (try dsimp only at h); go_simp; (try with_reducible rfl))
      try simp only [lays]
      refine' tk 10 rfl (by kernel_rfl) (fun _ _ _ h => h) (by rfl) (by assumption) ?y42 ?r42
      case y42 => (intro w h; (try dsimp only at h); go_simp; (try with_reducible rfl))
      try simp only [lays]
      refine' tk 11 rfl (by kernel_rfl) (fun _ _ _ h => h) (by rfl) (by assumption) ?y43 ?r43
      case y43 => (intro w h; (try dsimp only at h); go_simp; (try with_reducible rfl))
      try simp only [lays]
      refine wpAnyH_ready (rs := [9]) (by kernel_rfl) (by simp) (AllReadyH.cons rfl (fun K hK => ?_) AllReadyH.nil)
      go_simp
      refine (hB.out _).mono ?_; rintro e wz ⟨rfl, hbz⟩; have Dz := chain hbz (by assumption); have Pz := keepFour (n := w.heap.size) hbz (by assumption); have Qz := keepFour (n := w.heap.size + 1) hbz (by assumption); clear hbz
      try go_wp2_with fail
      clear hHeld
      refine hK.out _ _ (two_fours (by assumption) (by assumption)) (fun hHeld => ?_)
      clear hK K
      try simp only [lays]
      refine wpAnyH_ready (rs := [12]) (by kernel_rfl) (by simp) (AllReadyH.cons rfl (fun K hK => ?_) AllReadyH.nil)
      go_simp
      refine (h1.out _).mono ?_; rintro e wz ⟨rfl, hbz⟩; have Dz := chain hbz (by assumption); have Pz := keepFour (n := w.heap.size) hbz (by assumption); have Qz := keepFour (n := w.heap.size + 1) hbz (by assumption); clear hbz
      try go_wp2_with fail
      clear hHeld
      refine hK.out _ _ (two_fours (by assumption) (by assumption)) (fun hHeld => ?_)
      clear hK K
      try simp only [lays]
      refine' tk 13 rfl (by kernel_rfl) (fun _ _ _ h => h) (by rfl) (by assumption) ?y46 ?r46
      case y46 => (intro w h; (try dsimp only at h); go_simp; (try with_reducible rfl))
      try simp only [lays]
      refine' tk 14 rfl (by kernel_rfl) (fun _ _ _ h => h) (by rfl) (by assumption) ?y47 ?r47
      case y47 => (intro w h; (try dsimp only at h); go_simp; (try with_reducible rfl))
      try simp only [lays]
      refine' tk0 15 rfl (by kernel_rfl) (fun _ _ _ h => h) (by rfl) (by assumption) ?_
      try simp only [lays]
      refine' tk0 16 rfl (by kernel_rfl) (fun _ _ _ h => h) (by rfl) (by assumption) ?_
      try simp only [lays]
      refine' tk0 17 rfl (by kernel_rfl) (fun _ _ _ h => h) (by rfl) (by assumption) ?_
      try simp only [lays]
      refine' tk0 18 rfl (by kernel_rfl) (fun _ _ _ h => h) (by rfl) (by assumption) ?_
      try simp only [lays]
      refine' tk0 19 rfl (by kernel_rfl) (fun _ _ _ h => h) (by rfl) (by assumption) ?_
      try simp only [lays]
      refine' tk0 20 rfl (by kernel_rfl) (fun _ _ _ h => h) (by rfl) (by assumption) ?_
      try simp only [lays]
      refine' tk 21 rfl (by kernel_rfl) (fun _ _ _ h => h) (by rfl) (by assumption) ?y54 ?r54
      case y54 => (intro w h; (try dsimp only at h); go_simp; (try with_reducible rfl))
      try simp only [lays]
      refine' tk 22 rfl (by kernel_rfl) (fun _ _ _ h => h) (by rfl) (by assumption) ?y55 ?r55
      case y55 => (intro w h; (try dsimp only at h); go_simp; (try with_reducible rfl))
      try simp only [lays]
      refine' tk0 23 rfl (by kernel_rfl) (fun _ _ _ h => h) (by rfl) (by assumption) ?_
      try simp only [lays]
      refine' tk0 24 rfl (by kernel_rfl) (fun _ _ _ h => h) (by rfl) (by assumption) ?_
      try simp only [lays]
      refine' tk0 25 rfl (by kernel_rfl) (fun _ _ _ h => h) (by rfl) (by assumption) ?_
      try simp only [lays]
      refine' tk0 26 rfl (by kernel_rfl) (fun _ _ _ h => h) (by rfl) (by assumption) ?_
      try simp only [lays]
      refine' tk0 27 rfl (by kernel_rfl) (fun _ _ _ h => h) (by rfl) (by assumption) ?_
      try simp only [lays]
      refine' tk0 28 rfl (by kernel_rfl) (fun _ _ _ h => h) (by rfl) (by assumption) ?_
      try simp only [lays]
      refine' tk 29 rfl (by kernel_rfl) (fun _ _ _ h => h) (by rfl) (by assumption) ?y62 ?r62
      case y62 => (intro w h; (try dsimp only at h); go_simp; (try with_reducible rfl))
      try simp only [lays]
      refine' tk 30 rfl (by kernel_rfl) (fun _ _ _ h => h) (by rfl) (by assumption) ?y63 ?r63
      case y63 => (intro w h; (try dsimp only at h); go_simp; (try with_reducible rfl))
      try simp only [lays]
      refine wpAnyH_done (by kernel_rfl) ?_ _
      go_wp2
      go_ret
      exact ⟨by simp, by assumption⟩
    · cases x2
      · go_enter Tryz.func103, Tryz.ntmps103
        go_wp2_with fail
        refine wp_region_held_drew (S := (fun w' => w'.cell? ⟨w.heap.size, 0, none⟩ = some (.int .u16 (a : Int)) ∧ w'.cell? ⟨w.heap.size, 1, none⟩ = some (.int .u16 (b : Int)) ∧ w'.cell? ⟨w.heap.size, 2, none⟩ = some (.int .u8 (c : Int)) ∧ w'.cell? ⟨w.heap.size, 3, none⟩ = some (.int .u8 (d : Int)) ∧ w'.cell? ⟨w.heap.size + 1, 0, none⟩ = some (.int .i64 p) ∧ w'.cell? ⟨w.heap.size + 1, 1, none⟩ = some (.int .i64 q) ∧ w'.cell? ⟨w.heap.size + 1, 2, none⟩ = some (.int .i64 r) ∧ w'.cell? ⟨w.heap.size + 1, 3, none⟩ = some (.int .i64 s))) (by kernel_rfl) (two_fours (by assumption) (by assumption)) (fun hHeld => ?_)
        refine' tk 0 rfl (by kernel_rfl) (fun _ _ _ h => h) (by rfl) (by assumption) ?y65 ?r65
        case y65 => (intro w h; (try dsimp only at h); go_simp; (try with_reducible rfl))
        try simp only [lays]
        refine' tk 1 rfl (by kernel_rfl) (fun _ _ _ h => h) (by rfl) (by assumption) ?y66 ?r66
        case y66 => (intro w h; (try dsimp only at h); go_simp; (try with_reducible rfl))
        try simp only [lays]
        refine' tk 3 rfl (by kernel_rfl) (fun _ _ _ h => h) (by rfl) (by assumption) ?y67 ?r67
        case y67 => (intro w h; (try dsimp only at h); go_simp; (try with_reducible rfl))
        try simp only [lays]
        refine' tk 4 rfl (by kernel_rfl) (fun _ _ _ h => h) (by rfl) (by assumption) ?y68 ?r68
        case y68 => (intro w h; (try dsimp only at h); go_simp; (try with_reducible rfl))
        try simp only [lays]
        refine wpAnyH_ready (rs := [2]) (by kernel_rfl) (by simp) (AllReadyH.cons rfl (fun K hK => ?_) AllReadyH.nil)
        go_simp
        refine (hA.out _).mono ?_; rintro e wz ⟨rfl, hbz⟩; have Dz := chain hbz (by assumption); have Pz := keepFour (n := w.heap.size) hbz (by assumption); have Qz := keepFour (n := w.heap.size + 1) hbz (by assumption); clear hbz
        try go_wp2_with fail
        clear hHeld
        refine hK.out _ _ (two_fours (by assumption) (by assumption)) (fun hHeld => ?_)
        clear hK K
        try simp only [lays]
        refine wpAnyH_ready (rs := [5]) (by kernel_rfl) (by simp) (AllReadyH.cons rfl (fun K hK => ?_) AllReadyH.nil)
        go_simp
        refine (h0.out _).mono ?_; rintro e wz ⟨rfl, hbz⟩; have Dz := chain hbz (by assumption); have Pz := keepFour (n := w.heap.size) hbz (by assumption); have Qz := keepFour (n := w.heap.size + 1) hbz (by assumption); clear hbz
        try go_wp2_with fail
        clear hHeld
        refine hK.out _ _ (two_fours (by assumption) (by assumption)) (fun hHeld => ?_)
        clear hK K
        try simp only [lays]
        refine' tk 6 rfl (by kernel_rfl) (fun _ _ _ h => h) (by rfl) (by assumption) ?y71 ?r71
        case y71 => (intro w h; (try dsimp only at h); go_simp; (try with_reducible rfl))
        try simp only [lays]
        refine' tk 7 rfl (by kernel_rfl) (fun _ _ _ h => h) (by rfl) (by assumption) ?y72 ?r72
        case y72 => (intro w h; (try dsimp only at h); go_simp; (try with_reducible rfl))
        try simp only [lays]
        refine' tk 8 rfl (by kernel_rfl) (fun _ _ _ h => h) (by rfl) (by assumption) ?y73 ?r73
        case y73 => (intro w h; (try dsimp only at h); go_simp; (try with_reducible rfl))
        try simp only [lays]
        refine' tk 10 rfl (by kernel_rfl) (fun _ _ _ h => h) (by rfl) (by assumption) ?y74 ?r74
        case y74 => (intro w h; (try dsimp only at h); go_simp; (try with_reducible rfl))
        try simp only [lays]
        refine' tk 11 rfl (by kernel_rfl) (fun _ _ _ h => h) (by rfl) (by assumption) ?y75 ?r75
        case y75 => (intro w h; (try dsimp only at h); go_simp; (try with_reducible rfl))
        try simp only [lays]
        refine wpAnyH_ready (rs := [9]) (by kernel_rfl) (by simp) (AllReadyH.cons rfl (fun K hK => ?_) AllReadyH.nil)
        go_simp
        refine (hB.out _).mono ?_; rintro e wz ⟨rfl, hbz⟩; have Dz := chain hbz (by assumption); have Pz := keepFour (n := w.heap.size) hbz (by assumption); have Qz := keepFour (n := w.heap.size + 1) hbz (by assumption); clear hbz
        try go_wp2_with fail
        clear hHeld
        refine hK.out _ _ (two_fours (by assumption) (by assumption)) (fun hHeld => ?_)
        clear hK K
        try simp only [lays]
        refine wpAnyH_ready (rs := [12]) (by kernel_rfl) (by simp) (AllReadyH.cons rfl (fun K hK => ?_) AllReadyH.nil)
        go_simp
        refine (h1.out _).mono ?_; rintro e wz ⟨rfl, hbz⟩; have Dz := chain hbz (by assumption); have Pz := keepFour (n := w.heap.size) hbz (by assumption); have Qz := keepFour (n := w.heap.size + 1) hbz (by assumption); clear hbz
        try go_wp2_with fail
        clear hHeld
        refine hK.out _ _ (two_fours (by assumption) (by assumption)) (fun hHeld => ?_)
        clear hK K
        try simp only [lays]
        refine' tk 13 rfl (by kernel_rfl) (fun _ _ _ h => h) (by rfl) (by assumption) ?y78 ?r78
        case y78 => (intro w h; (try dsimp only at h); go_simp; (try with_reducible rfl))
        try simp only [lays]
        refine' tk 14 rfl (by kernel_rfl) (fun _ _ _ h => h) (by rfl) (by assumption) ?y79 ?r79
        case y79 => (intro w h; (try dsimp only at h); go_simp; (try with_reducible rfl))
        try simp only [lays]
        refine' tk 15 rfl (by kernel_rfl) (fun _ _ _ h => h) (by rfl) (by assumption) ?y80 ?r80
        case y80 => (intro w h; (try dsimp only at h); go_simp; (try with_reducible rfl))
        try simp only [lays]
        refine' tk 16 rfl (by kernel_rfl) (fun _ _ _ h => h) (by rfl) (by assumption) ?y81 ?r81
        case y81 => (intro w h; (try dsimp only at h); go_simp; (try with_reducible rfl))
        try simp only [lays]
        refine' tk 18 rfl (by kernel_rfl) (fun _ _ _ h => h) (by rfl) (by assumption) ?y82 ?r82
        case y82 => (intro w h; (try dsimp only at h); go_simp; (try with_reducible rfl))
        try simp only [lays]
        refine' tk 19 rfl (by kernel_rfl) (fun _ _ _ h => h) (by rfl) (by assumption) ?y83 ?r83
        case y83 => (intro w h; (try dsimp only at h); go_simp; (try with_reducible rfl))
        try simp only [lays]
        refine wpAnyH_ready (rs := [17]) (by kernel_rfl) (by simp) (AllReadyH.cons rfl (fun K hK => ?_) AllReadyH.nil)
        go_simp
        refine (hC.out _).mono ?_; rintro e wz ⟨rfl, hbz⟩; have Dz := chain hbz (by assumption); have Pz := keepFour (n := w.heap.size) hbz (by assumption); have Qz := keepFour (n := w.heap.size + 1) hbz (by assumption); clear hbz
        try go_wp2_with fail
        clear hHeld
        refine hK.out _ _ (two_fours (by assumption) (by assumption)) (fun hHeld => ?_)
        clear hK K
        try simp only [lays]
        refine wpAnyH_ready (rs := [20]) (by kernel_rfl) (by simp) (AllReadyH.cons rfl (fun K hK => ?_) AllReadyH.nil)
        go_simp
        refine (h2.out _).mono ?_; rintro e wz ⟨rfl, hbz⟩; have Dz := chain hbz (by assumption); have Pz := keepFour (n := w.heap.size) hbz (by assumption); have Qz := keepFour (n := w.heap.size + 1) hbz (by assumption); clear hbz
        try go_wp2_with fail
        clear hHeld
        refine hK.out _ _ (two_fours (by assumption) (by assumption)) (fun hHeld => ?_)
        clear hK K
        try simp only [lays]
        refine' tk 21 rfl (by kernel_rfl) (fun _ _ _ h => h) (by rfl) (by assumption) ?y86 ?r86
        case y86 => (intro w h; (try dsimp only at h); go_simp; (try with_reducible rfl))
        try simp only [lays]
        refine' tk 22 rfl (by kernel_rfl) (fun _ _ _ h => h) (by rfl) (by assumption) ?y87 ?r87
        case y87 => (intro w h; (try dsimp only at h); go_simp; (try with_reducible rfl))
        try simp only [lays]
        refine' tk0 23 rfl (by kernel_rfl) (fun _ _ _ h => h) (by rfl) (by assumption) ?_
        try simp only [lays]
        refine' tk0 24 rfl (by kernel_rfl) (fun _ _ _ h => h) (by rfl) (by assumption) ?_
        try simp only [lays]
        refine' tk0 25 rfl (by kernel_rfl) (fun _ _ _ h => h) (by rfl) (by assumption) ?_
        try simp only [lays]
        refine' tk0 26 rfl (by kernel_rfl) (fun _ _ _ h => h) (by rfl) (by assumption) ?_
        try simp only [lays]
        refine' tk0 27 rfl (by kernel_rfl) (fun _ _ _ h => h) (by rfl) (by assumption) ?_
        try simp only [lays]
        refine' tk0 28 rfl (by kernel_rfl) (fun _ _ _ h => h) (by rfl) (by assumption) ?_
        try simp only [lays]
        refine' tk 29 rfl (by kernel_rfl) (fun _ _ _ h => h) (by rfl) (by assumption) ?y94 ?r94
        case y94 => (intro w h; (try dsimp only at h); go_simp; (try with_reducible rfl))
        try simp only [lays]
        refine' tk 30 rfl (by kernel_rfl) (fun _ _ _ h => h) (by rfl) (by assumption) ?y95 ?r95
        case y95 => (intro w h; (try dsimp only at h); go_simp; (try with_reducible rfl))
        try simp only [lays]
        refine wpAnyH_done (by kernel_rfl) ?_ _
        go_wp2
        go_ret
        exact ⟨by simp, by assumption⟩
      · go_enter Tryz.func103, Tryz.ntmps103
        go_wp2_with fail
        refine wp_region_held_drew (S := (fun w' => w'.cell? ⟨w.heap.size, 0, none⟩ = some (.int .u16 (a : Int)) ∧ w'.cell? ⟨w.heap.size, 1, none⟩ = some (.int .u16 (b : Int)) ∧ w'.cell? ⟨w.heap.size, 2, none⟩ = some (.int .u8 (c : Int)) ∧ w'.cell? ⟨w.heap.size, 3, none⟩ = some (.int .u8 (d : Int)) ∧ w'.cell? ⟨w.heap.size + 1, 0, none⟩ = some (.int .i64 p) ∧ w'.cell? ⟨w.heap.size + 1, 1, none⟩ = some (.int .i64 q) ∧ w'.cell? ⟨w.heap.size + 1, 2, none⟩ = some (.int .i64 r) ∧ w'.cell? ⟨w.heap.size + 1, 3, none⟩ = some (.int .i64 s))) (by kernel_rfl) (two_fours (by assumption) (by assumption)) (fun hHeld => ?_)
        refine' tk 0 rfl (by kernel_rfl) (fun _ _ _ h => h) (by rfl) (by assumption) ?y97 ?r97
        case y97 => (intro w h; (try dsimp only at h); go_simp; (try with_reducible rfl))
        try simp only [lays]
        refine' tk 1 rfl (by kernel_rfl) (fun _ _ _ h => h) (by rfl) (by assumption) ?y98 ?r98
        case y98 => (intro w h; (try dsimp only at h); go_simp; (try with_reducible rfl))
        try simp only [lays]
        refine' tk 3 rfl (by kernel_rfl) (fun _ _ _ h => h) (by rfl) (by assumption) ?y99 ?r99
        case y99 => (intro w h; (try dsimp only at h); go_simp; (try with_reducible rfl))
        try simp only [lays]
        refine' tk 4 rfl (by kernel_rfl) (fun _ _ _ h => h) (by rfl) (by assumption) ?y100 ?r100
        case y100 => (intro w h; (try dsimp only at h); go_simp; (try with_reducible rfl))
        try simp only [lays]
        refine wpAnyH_ready (rs := [2]) (by kernel_rfl) (by simp) (AllReadyH.cons rfl (fun K hK => ?_) AllReadyH.nil)
        go_simp
        refine (hA.out _).mono ?_; rintro e wz ⟨rfl, hbz⟩; have Dz := chain hbz (by assumption); have Pz := keepFour (n := w.heap.size) hbz (by assumption); have Qz := keepFour (n := w.heap.size + 1) hbz (by assumption); clear hbz
        try go_wp2_with fail
        clear hHeld
        refine hK.out _ _ (two_fours (by assumption) (by assumption)) (fun hHeld => ?_)
        clear hK K
        try simp only [lays]
        refine wpAnyH_ready (rs := [5]) (by kernel_rfl) (by simp) (AllReadyH.cons rfl (fun K hK => ?_) AllReadyH.nil)
        go_simp
        refine (h0.out _).mono ?_; rintro e wz ⟨rfl, hbz⟩; have Dz := chain hbz (by assumption); have Pz := keepFour (n := w.heap.size) hbz (by assumption); have Qz := keepFour (n := w.heap.size + 1) hbz (by assumption); clear hbz
        try go_wp2_with fail
        clear hHeld
        refine hK.out _ _ (two_fours (by assumption) (by assumption)) (fun hHeld => ?_)
        clear hK K
        try simp only [lays]
        refine' tk 6 rfl (by kernel_rfl) (fun _ _ _ h => h) (by rfl) (by assumption) ?y103 ?r103
        case y103 => (intro w h; (try dsimp only at h); go_simp; (try with_reducible rfl))
        try simp only [lays]
        refine' tk 7 rfl (by kernel_rfl) (fun _ _ _ h => h) (by rfl) (by assumption) ?y104 ?r104
        case y104 => (intro w h; (try dsimp only at h); go_simp; (try with_reducible rfl))
        try simp only [lays]
        refine' tk 8 rfl (by kernel_rfl) (fun _ _ _ h => h) (by rfl) (by assumption) ?y105 ?r105
        case y105 => (intro w h; (try dsimp only at h); go_simp; (try with_reducible rfl))
        try simp only [lays]
        refine' tk 10 rfl (by kernel_rfl) (fun _ _ _ h => h) (by rfl) (by assumption) ?y106 ?r106
        case y106 => (intro w h; (try dsimp only at h); go_simp; (try with_reducible rfl))
        try simp only [lays]
        refine' tk 11 rfl (by kernel_rfl) (fun _ _ _ h => h) (by rfl) (by assumption) ?y107 ?r107
        case y107 => (intro w h; (try dsimp only at h); go_simp; (try with_reducible rfl))
        try simp only [lays]
        refine wpAnyH_ready (rs := [9]) (by kernel_rfl) (by simp) (AllReadyH.cons rfl (fun K hK => ?_) AllReadyH.nil)
        go_simp
        refine (hB.out _).mono ?_; rintro e wz ⟨rfl, hbz⟩; have Dz := chain hbz (by assumption); have Pz := keepFour (n := w.heap.size) hbz (by assumption); have Qz := keepFour (n := w.heap.size + 1) hbz (by assumption); clear hbz
        try go_wp2_with fail
        clear hHeld
        refine hK.out _ _ (two_fours (by assumption) (by assumption)) (fun hHeld => ?_)
        clear hK K
        try simp only [lays]
        refine wpAnyH_ready (rs := [12]) (by kernel_rfl) (by simp) (AllReadyH.cons rfl (fun K hK => ?_) AllReadyH.nil)
        go_simp
        refine (h1.out _).mono ?_; rintro e wz ⟨rfl, hbz⟩; have Dz := chain hbz (by assumption); have Pz := keepFour (n := w.heap.size) hbz (by assumption); have Qz := keepFour (n := w.heap.size + 1) hbz (by assumption); clear hbz
        try go_wp2_with fail
        clear hHeld
        refine hK.out _ _ (two_fours (by assumption) (by assumption)) (fun hHeld => ?_)
        clear hK K
        try simp only [lays]
        refine' tk 13 rfl (by kernel_rfl) (fun _ _ _ h => h) (by rfl) (by assumption) ?y110 ?r110
        case y110 => (intro w h; (try dsimp only at h); go_simp; (try with_reducible rfl))
        try simp only [lays]
        refine' tk 14 rfl (by kernel_rfl) (fun _ _ _ h => h) (by rfl) (by assumption) ?y111 ?r111
        case y111 => (intro w h; (try dsimp only at h); go_simp; (try with_reducible rfl))
        try simp only [lays]
        refine' tk 15 rfl (by kernel_rfl) (fun _ _ _ h => h) (by rfl) (by assumption) ?y112 ?r112
        case y112 => (intro w h; (try dsimp only at h); go_simp; (try with_reducible rfl))
        try simp only [lays]
        refine' tk 16 rfl (by kernel_rfl) (fun _ _ _ h => h) (by rfl) (by assumption) ?y113 ?r113
        case y113 => (intro w h; (try dsimp only at h); go_simp; (try with_reducible rfl))
        try simp only [lays]
        refine' tk 18 rfl (by kernel_rfl) (fun _ _ _ h => h) (by rfl) (by assumption) ?y114 ?r114
        case y114 => (intro w h; (try dsimp only at h); go_simp; (try with_reducible rfl))
        try simp only [lays]
        refine' tk 19 rfl (by kernel_rfl) (fun _ _ _ h => h) (by rfl) (by assumption) ?y115 ?r115
        case y115 => (intro w h; (try dsimp only at h); go_simp; (try with_reducible rfl))
        try simp only [lays]
        refine wpAnyH_ready (rs := [17]) (by kernel_rfl) (by simp) (AllReadyH.cons rfl (fun K hK => ?_) AllReadyH.nil)
        go_simp
        refine (hC.out _).mono ?_; rintro e wz ⟨rfl, hbz⟩; have Dz := chain hbz (by assumption); have Pz := keepFour (n := w.heap.size) hbz (by assumption); have Qz := keepFour (n := w.heap.size + 1) hbz (by assumption); clear hbz
        try go_wp2_with fail
        clear hHeld
        refine hK.out _ _ (two_fours (by assumption) (by assumption)) (fun hHeld => ?_)
        clear hK K
        try simp only [lays]
        refine wpAnyH_ready (rs := [20]) (by kernel_rfl) (by simp) (AllReadyH.cons rfl (fun K hK => ?_) AllReadyH.nil)
        go_simp
        refine (h2.out _).mono ?_; rintro e wz ⟨rfl, hbz⟩; have Dz := chain hbz (by assumption); have Pz := keepFour (n := w.heap.size) hbz (by assumption); have Qz := keepFour (n := w.heap.size + 1) hbz (by assumption); clear hbz
        try go_wp2_with fail
        clear hHeld
        refine hK.out _ _ (two_fours (by assumption) (by assumption)) (fun hHeld => ?_)
        clear hK K
        try simp only [lays]
        refine' tk 21 rfl (by kernel_rfl) (fun _ _ _ h => h) (by rfl) (by assumption) ?y118 ?r118
        case y118 => (intro w h; (try dsimp only at h); go_simp; (try with_reducible rfl))
        try simp only [lays]
        refine' tk 22 rfl (by kernel_rfl) (fun _ _ _ h => h) (by rfl) (by assumption) ?y119 ?r119
        case y119 => (intro w h; (try dsimp only at h); go_simp; (try with_reducible rfl))
        try simp only [lays]
        refine' tk 23 rfl (by kernel_rfl) (fun _ _ _ h => h) (by rfl) (by assumption) ?y120 ?r120
        case y120 => (intro w h; (try dsimp only at h); go_simp; (try with_reducible rfl))
        try simp only [lays]
        refine' tk 24 rfl (by kernel_rfl) (fun _ _ _ h => h) (by rfl) (by assumption) ?y121 ?r121
        case y121 => (intro w h; (try dsimp only at h); go_simp; (try with_reducible rfl))
        try simp only [lays]
        refine' tk 26 rfl (by kernel_rfl) (fun _ _ _ h => h) (by rfl) (by assumption) ?y122 ?r122
        case y122 => (intro w h; (try dsimp only at h); go_simp; (try with_reducible rfl))
        try simp only [lays]
        refine' tk 27 rfl (by kernel_rfl) (fun _ _ _ h => h) (by rfl) (by assumption) ?y123 ?r123
        case y123 => (intro w h; (try dsimp only at h); go_simp; (try with_reducible rfl))
        try simp only [lays]
        refine wpAnyH_ready (rs := [25]) (by kernel_rfl) (by simp) (AllReadyH.cons rfl (fun K hK => ?_) AllReadyH.nil)
        go_simp
        refine (hD.out _).mono ?_; rintro e wz ⟨rfl, hbz⟩; have Dz := chain hbz (by assumption); have Pz := keepFour (n := w.heap.size) hbz (by assumption); have Qz := keepFour (n := w.heap.size + 1) hbz (by assumption); clear hbz
        try go_wp2_with fail
        clear hHeld
        refine hK.out _ _ (two_fours (by assumption) (by assumption)) (fun hHeld => ?_)
        clear hK K
        try simp only [lays]
        refine wpAnyH_ready (rs := [28]) (by kernel_rfl) (by simp) (AllReadyH.cons rfl (fun K hK => ?_) AllReadyH.nil)
        go_simp
        refine (h3.out _).mono ?_; rintro e wz ⟨rfl, hbz⟩; have Dz := chain hbz (by assumption); have Pz := keepFour (n := w.heap.size) hbz (by assumption); have Qz := keepFour (n := w.heap.size + 1) hbz (by assumption); clear hbz
        try go_wp2_with fail
        clear hHeld
        refine hK.out _ _ (two_fours (by assumption) (by assumption)) (fun hHeld => ?_)
        clear hK K
        try simp only [lays]
        refine' tk 29 rfl (by kernel_rfl) (fun _ _ _ h => h) (by rfl) (by assumption) ?y126 ?r126
        case y126 => (intro w h; (try dsimp only at h); go_simp; (try with_reducible rfl))
        try simp only [lays]
        refine' tk 30 rfl (by kernel_rfl) (fun _ _ _ h => h) (by rfl) (by assumption) ?y127 ?r127
        case y127 => (intro w h; (try dsimp only at h); go_simp; (try with_reducible rfl))
        try simp only [lays]
        refine wpAnyH_done (by kernel_rfl) ?_ _
        go_wp2
        go_ret
        exact ⟨by simp, by assumption⟩
end Go.Proofs.YthioedgnambomaaGreat



namespace Go.Proofs.YthioedgnambomaaGreat
open Go.RowKit

/-- What In tells. -/
def inB (a b c d : Nat) (p q r s : Int) : Bool := hasB a p && hasB b q && hasB c r && hasB d s
theorem in_any (a b c d : Nat) (p q r s : Int) (w : World) (ha : a < 65536) (hb : b < 65536) (hc : c < 256) (hd : d < 256) :
    Calls Tryz.prog 103 #[mt a b c d, pk p q r s] w fun e w' => e = .returned (.bool (inB a b c d p q r s)) ∧ Below w.heap.size w w' :=
  in_case a b c d p q r s w _ _ _ _ (fun w => addrs_any a w ha) (fun w => addrs_any b w hb) (fun w => ports_any c w hc) (fun w => ports_any d w hd)
    (fun w => has_any a p 16 w ha) (fun w => has_any b q 16 w hb) (fun w => has_any c r 8 w (by omega)) (fun w => has_any d s 8 w (by omega))

/-- A rule: does it let through what its match has? -/
structure Rl where
  ok : Bool
  a : Nat
  b : Nat
  c : Nat
  d : Nat
  ha : a < 65536
  hb : b < 65536
  hc : c < 256
  hd : d < 256
def inR (r : Rl) (p q s t : Int) : Bool := inB r.a r.b r.c r.d p q s t
/-- What a list of rules says of a packet. -/
def letsB : List Rl → Int → Int → Int → Int → Bool
  | [], _, _, _, _ => false
  | r :: l, p, q, s, t => if inR r p q s t then r.ok else letsB l p q s t
def allR (ok : Bool) : Rl := ⟨ok, 65535, 65535, 255, 255, by omega, by omega, by omega, by omega⟩
abbrev rcells (r : Rl) : List Value := [.bool r.ok, .int .u16 (r.a : Int), .int .u16 (r.b : Int), .int .u8 (r.c : Int), .int .u8 (r.d : Int)]
abbrev rv (r : Rl) : Value := .agg #[.bool r.ok, .int .u16 (r.a : Int), .int .u16 (r.b : Int), .int .u8 (r.c : Int), .int .u8 (r.d : Int)]
def cellsR (xs : List Rl) : List Value := xs.flatMap fun r => rcells r

theorem cellsR_cons (r : Rl) (l : List Rl) : cellsR (r :: l) = rcells r ++ cellsR l := rfl
theorem cellsR_append (a b : List Rl) : cellsR (a ++ b) = cellsR a ++ cellsR b := by simp [cellsR]
theorem cellsR_length : ∀ xs : List Rl, (cellsR xs).length = xs.length * 5
  | [] => rfl
  | r :: l => by
    have := cellsR_length l
    rw [cellsR_cons, List.length_append, this]
    simp
    omega
theorem cellsR_one : ∀ xs : List Rl, ∀ u ∈ cellsR xs, u.oneCell' = true
  | [], u, h => by simp [cellsR] at h
  | r :: l, u, h => by
    rw [cellsR_cons, List.mem_append] at h
    rcases h with h | h
    · simp only [rcells, List.mem_cons, List.not_mem_nil, or_false] at h
      rcases h with rfl | rfl | rfl | rfl | rfl <;> rfl
    · exact cellsR_one l u h
theorem cellsR_at : ∀ (xs : List Rl) (k : Nat) (r : Rl), xs[k]? = some r →
    (cellsR xs)[k * 5]? = some (.bool r.ok) ∧ (cellsR xs)[k * 5 + 1]? = some (.int .u16 (r.a : Int)) ∧ (cellsR xs)[k * 5 + 2]? = some (.int .u16 (r.b : Int)) ∧ (cellsR xs)[k * 5 + 3]? = some (.int .u8 (r.c : Int)) ∧ (cellsR xs)[k * 5 + 4]? = some (.int .u8 (r.d : Int))
  | [], k, r, h => by simp at h
  | x :: l, 0, r, h => by
    obtain rfl : x = r := by simpa using h
    exact ⟨rfl, rfl, rfl, rfl, rfl⟩
  | x :: l, k + 1, r, h => by
    have ih := cellsR_at l k r (by simpa using h)
    have sh : ∀ j, (cellsR (x :: l))[(k + 1) * 5 + j]? = (cellsR l)[k * 5 + j]? := fun j => by
      rw [cellsR_cons, List.getElem?_append_right (by simp; omega)]
      congr 1
      simp
      omega
    have s0 := sh 0
    simp only [Nat.add_zero] at s0
    rw [s0, sh 1, sh 2, sh 3, sh 4]
    exact ih

/-- So the rules lie in block b, from cell o on. -/
def RAt (w : World) (b o : Nat) (xs : List Rl) : Prop := ∀ j u, (cellsR xs)[j]? = some u → w.cell? ⟨b, o + j, none⟩ = some u
/-- A slice that holds the rules, below block number base. -/
def Rules (base : Nat) (w : World) (v : Value) (xs : List Rl) : Prop :=
  ∃ A cap, v = .slice A xs.length cap ∧ (A = none → cap = 0) ∧ xs.length ≤ cap ∧ cap ≤ maxLen ∧ (xs ≠ [] → ∃ b o, A = some ⟨b, o, none⟩ ∧ b < base ∧ RAt w b o xs)

theorem RAt.at {w : World} {b o : Nat} {xs : List Rl} (h : RAt w b o xs) {k : Nat} {r : Rl} (hk : xs[k]? = some r) :
    w.cell? ⟨b, o + k * 5, none⟩ = some (.bool r.ok) ∧ w.cell? ⟨b, o + k * 5 + 1, none⟩ = some (.int .u16 (r.a : Int)) ∧ w.cell? ⟨b, o + k * 5 + 2, none⟩ = some (.int .u16 (r.b : Int)) ∧ w.cell? ⟨b, o + k * 5 + 3, none⟩ = some (.int .u8 (r.c : Int)) ∧ w.cell? ⟨b, o + k * 5 + 4, none⟩ = some (.int .u8 (r.d : Int)) := by
  obtain ⟨h0, h1, h2, h3, h4⟩ := cellsR_at xs k r hk
  exact ⟨h _ _ h0, h _ _ h1, h _ _ h2, h _ _ h3, h _ _ h4⟩
theorem RAt.below {base : Nat} {w w' : World} {b o : Nat} {xs : List Rl} (h : RAt w b o xs) (hb : Below base w w') (hl : b < base) : RAt w' b o xs :=
  fun j u hj => (hb.cell (p := ⟨b, _, none⟩) hl).trans (h j u hj)
theorem Rules.below {base : Nat} {w w' : World} {v : Value} {xs : List Rl} (h : Rules base w v xs) (hb : Below base w w') : Rules base w' v xs := by
  obtain ⟨A, cap, e, h0, h1, h2, h3⟩ := h
  refine ⟨A, cap, e, h0, h1, h2, fun hn => ?_⟩
  obtain ⟨b, o, ea, hl, hr⟩ := h3 hn
  exact ⟨b, o, ea, hl, hr.below hb hl⟩
theorem Rules.mono {base base' : Nat} {w : World} {v : Value} {xs : List Rl} (h : Rules base w v xs) (hb : base ≤ base') : Rules base' w v xs := by
  obtain ⟨A, cap, e, h0, h1, h2, h3⟩ := h
  refine ⟨A, cap, e, h0, h1, h2, fun hn => ?_⟩
  obtain ⟨b, o, ea, hl, hr⟩ := h3 hn
  exact ⟨b, o, ea, by omega, hr⟩
/-- A row of a call's own, read as rules. -/
theorem Rules.own {base : Nat} {w : World} {t : TypeId} {v : Value} {xs : List Rl} (h : w.ownsRow base t 5 v xs.length (cellsR xs)) : Rules w.heap.size w v xs := by
  obtain ⟨hl, hc⟩ := h
  rcases hc with ⟨rfl, h0⟩ | ⟨g, cap, cur, rfl, hb, hg, hn, hcap, hs, ht⟩
  · exact ⟨none, 0, by rw [h0], fun _ => rfl, by omega, by unfold maxLen; omega, fun hn => absurd (List.length_eq_zero_iff.1 h0) hn⟩
  · refine ⟨_, cap, rfl, (fun e => by cases e), hn, hcap, fun _ => ⟨g, 0, rfl, (Array.getElem?_eq_some_iff.1 hg).1, fun j u hj => ?_⟩⟩
    have hown : w.ownsRow base t 5 (.slice (some ⟨g, 0, none⟩) xs.length cap) xs.length (cellsR xs) := ⟨hl, .inr ⟨g, cap, cur, rfl, hb, hg, hn, hcap, hs, ht⟩⟩
    have := hown.cells (g := g) rfl j u hj
    rw [Addr.add_lit] at this
    exact this

/-! ### what a list says -/
theorem inR_all {ok : Bool} {p q s t : Int} (hp : 0 ≤ p ∧ p < 16) (hq : 0 ≤ q ∧ q < 16) (hs : 0 ≤ s ∧ s < 8) (ht : 0 ≤ t ∧ t < 8) : inR (allR ok) p q s t = true := by
  have one : ∀ (n : Int) (m : Nat), 0 ≤ n → n < m → hasB (2 ^ m - 1) n = true := by
    intro n m h0 h1
    unfold hasB
    rw [Nat.testBit_two_pow_sub_one]
    simp
    omega
  unfold inR allR inB
  have h1 := one p 16 hp.1 hp.2
  have h2 := one q 16 hq.1 hq.2
  have h3 := one s 8 hs.1 hs.2
  have h4 := one t 8 ht.1 ht.2
  simp only [show (2 : Nat) ^ 16 - 1 = 65535 from rfl, show (2 : Nat) ^ 8 - 1 = 255 from rfl] at h1 h2 h3 h4
  simp [h1, h2, h3, h4]
theorem letsB_append : ∀ (l m : List Rl) (p q s t : Int), (∃ r ∈ l, inR r p q s t = true) → letsB (l ++ m) p q s t = letsB l p q s t
  | [], _, _, _, _, _, h => by obtain ⟨r, hr, _⟩ := h; cases hr
  | x :: l, m, p, q, s, t, h => by
    simp only [List.cons_append, letsB]
    by_cases hx : inR x p q s t = true
    · rw [if_pos hx, if_pos hx]
    · rw [if_neg hx, if_neg hx]
      refine letsB_append l m p q s t ?_
      obtain ⟨r, hr, hi⟩ := h
      rcases List.mem_cons.1 hr with rfl | hr
      · exact absurd hi hx
      · exact ⟨r, hr, hi⟩
theorem letsB_none : ∀ (l m : List Rl) (p q s t : Int), (∀ r ∈ l, inR r p q s t = false) → letsB (l ++ m) p q s t = letsB m p q s t
  | [], _, _, _, _, _, _ => rfl
  | x :: l, m, p, q, s, t, h => by
    simp only [List.cons_append, letsB]
    rw [if_neg (by rw [h x (List.mem_cons_self ..)]; simp)]
    exact letsB_none l m p q s t (fun r hr => h r (List.mem_cons_of_mem _ hr))
/-- Behind a rule for all that lets nothing through nothing is looked at. -/
theorem letsB_ended (l m : List Rl) {p q s t : Int} (h : inR (allR false) p q s t = true) : letsB (l ++ (allR false :: m)) p q s t = letsB l p q s t := by
  by_cases hx : ∃ r ∈ l, inR r p q s t = true
  · exact letsB_append l _ p q s t hx
  · have hx' : ∀ r ∈ l, inR r p q s t = false := fun r hr => by
      cases hi : inR r p q s t
      · rfl
      · exact absurd ⟨r, hr, hi⟩ hx
    rw [letsB_none l _ p q s t hx', letsB, if_pos h]
    have := letsB_none l [] p q s t hx'
    rw [List.append_nil] at this
    rw [this]
    rfl
end Go.Proofs.YthioedgnambomaaGreat



namespace Go.Proofs.YthioedgnambomaaGreat
open Go.RowKit

theorem letsB_drop {xs : List Rl} {k : Nat} {r : Rl} (h : xs[k]? = some r) (p q s t : Int) : letsB (xs.drop k) p q s t = if inR r p q s t then r.ok else letsB (xs.drop (k + 1)) p q s t := by
  obtain ⟨hk, e⟩ := List.getElem?_eq_some_iff.1 h
  rw [List.drop_eq_getElem_cons hk, e]
  rfl

set_option maxHeartbeats 4000000 in
theorem lets_row (b o cap : Nat) (xs : List Rl) (p q s t : Int) (w : World) (hb : b < w.heap.size) (hn : xs.length ≤ cap) (hcap : cap ≤ maxLen) (hr : RAt w b o xs) :
    Calls Tryz.prog 94 #[.slice (some ⟨b, o, none⟩) xs.length cap, pk p q s t] w fun e w' => e = .returned (.bool (letsB xs p q s t)) ∧ Below w.heap.size w w' := by
  unfold maxLen at hcap
  have D0 := Below.alloc' (Below.refl w.heap.size w) (.cells #[.int .i64 p, .int .i64 q, .int .i64 s, .int .i64 t] 29)
  have F0 := four_new w (.int .i64 p) (.int .i64 q) (.int .i64 s) (.int .i64 t) 29
  go_enter Tryz.func94, Tryz.ntmps94
  go_wp2_with fail
  go_loopw [9] (fun i wr => ∃ k : Nat, i = .int .i64 (k : Int) ∧ k ≤ xs.length ∧ Below w.heap.size w wr ∧ Four wr w.heap.size (.int .i64 p) (.int .i64 q) (.int .i64 s) (.int .i64 t) ∧ letsB xs p q s t = letsB (xs.drop k) p q s t) (fun i _ => xs.length - (intOf i).toNat)
  case atStart => exact ⟨0, rfl, by omega, D0, F0, rfl⟩
  case round =>
    obtain ⟨k, rfl, hk, D1, F1, hl⟩ := hrel
    have Hl : Hid (letsB xs p q s t = letsB (xs.drop k) p q s t) := hl
    clear hl
    by_cases hlt : k < xs.length
    · obtain ⟨r, hxk⟩ : ∃ r, xs[k]? = some r := ⟨_, List.getElem?_eq_getElem hlt⟩
      obtain ⟨c0, c1, c2, c3, c4⟩ := (hr.below D1 hb).at hxk
      have Hd : Hid (letsB (xs.drop k) p q s t = if inR r p q s t then r.ok else letsB (xs.drop (k + 1)) p q s t) := letsB_drop hxk p q s t
      have IN : Hid (∀ w, Calls Tryz.prog 103 #[mt r.a r.b r.c r.d, pk p q s t] w fun e w' => e = .returned (.bool (inR r p q s t)) ∧ Below w.heap.size w w') := fun w => in_any r.a r.b r.c r.d p q s t w r.ha r.hb r.hc r.hd
      have D2 := Below.alloc' D1 (.cells #[.bool r.ok, .int .u16 (r.a : Int), .int .u16 (r.b : Int), .int .u8 (r.c : Int), .int .u8 (r.d : Int)] 112)
      have F2 := allocFour F1 (.cells #[.bool r.ok, .int .u16 (r.a : Int), .int .u16 (r.b : Int), .int .u8 (r.c : Int), .int .u8 (r.d : Int)] 112)
      have B2 : (wr.alloc (.cells #[.bool r.ok, .int .u16 (r.a : Int), .int .u16 (r.b : Int), .int .u8 (r.c : Int), .int .u8 (r.d : Int)] 112)).cell? ⟨wr.heap.size, 0, none⟩ = some (.bool r.ok) := by simp [go_sem]
      obtain ⟨l0, g0, g1, g2, g3⟩ := id F1
      have lw := D1.size
      clear hr hxk
      generalize inR r p q s t = v at *
      generalize r.ok = ok at *
      generalize r.a = ra at *
      generalize r.b = rb at *
      generalize r.c = rc at *
      generalize r.d = rd at *
      go_wp2_with fail
      refine (IN.out _).mono ?_
      rintro e w3 ⟨rfl, hb3⟩
      have D3 := chain hb3 D2
      have F3 := keepFour hb3 F2
      have c5 : w3.cell? ⟨wr.heap.size, 0, none⟩ = some (.bool ok) := (hb3.cell (p := ⟨wr.heap.size, 0, none⟩) (by simp)).trans B2
      clear hb3 D2 F2 F1 D1 B2 IN c0 c1 c2 c3 c4 g0 g1 g2 g3
      cases v
      · go_wp2_with fail
        go_roundw
        case rel => exact ⟨k + 1, by go_num, by omega, D3, F3, by rw [Hl.out, Hd.out]; simp⟩
        case measure => simp [intOf]; omega
      · go_wp2_with fail
        go_ret
        exact ⟨by rw [Hl.out, Hd.out]; simp, D3⟩
    · go_wp2_with fail
      go_ret
      exact ⟨by rw [Hl.out, List.drop_eq_nil_of_le (by omega)]; rfl, D1⟩

set_option maxHeartbeats 1000000 in
theorem lets_none (A : Option Addr) (cap : Nat) (p q s t : Int) (w : World) :
    Calls Tryz.prog 94 #[.slice A 0 cap, pk p q s t] w fun e w' => e = .returned (.bool false) ∧ Below w.heap.size w w' := by
  have D0 := Below.alloc' (Below.refl w.heap.size w) (.cells #[.int .i64 p, .int .i64 q, .int .i64 s, .int .i64 t] 29)
  go_enter Tryz.func94, Tryz.ntmps94
  go_wp2_with fail
  go_loopw [9] (fun i wr => i = .int .i64 0 ∧ Below w.heap.size w wr) (fun i _ => 0)
  case atStart => exact ⟨rfl, D0⟩
  case round =>
    obtain ⟨rfl, D1⟩ := hrel
    go_wp2_with fail
    go_ret
    exact ⟨rfl, D1⟩

/-- Lets. -/
theorem lets_any {v : Value} {xs : List Rl} (p q s t : Int) (w : World) (h : Rules w.heap.size w v xs) :
    Calls Tryz.prog 94 #[v, pk p q s t] w fun e w' => e = .returned (.bool (letsB xs p q s t)) ∧ Below w.heap.size w w' := by
  obtain ⟨A, cap, rfl, _, h1, h2, h3⟩ := h
  by_cases hx : xs = []
  · subst hx
    exact lets_none A cap p q s t w
  · obtain ⟨b, o, rfl, hb, hr⟩ := h3 hx
    exact lets_row b o cap xs p q s t w hb h1 h2 hr
end Go.Proofs.YthioedgnambomaaGreat



namespace Go.Proofs.YthioedgnambomaaGreat
open Go.RowKit Go.Maps

/-! ### plain -/
def zeroP : Pk := ⟨0, 0, 0, 0⟩
def flipP (p : Pk) : Pk := ⟨p.d, p.s, p.dp, p.sp⟩
def adB (n : Int) : Bool := decide (0 ≤ n) && decide (n < 16)
def poB (n : Int) : Bool := decide (0 ≤ n) && decide (n < 8)
def pkOk (p : Pk) : Bool := adB p.s && adB p.d && poB p.sp && poB p.dp
/-- What is to be known once a packet has gone out. -/
inductive Lrn where
  | no
  | flow (i : Int) (p : Pk)
  | own (i port : Int) (s : Int × Int)
  | back (i : Int) (p : Pk) (b : Int)
/-- What devices know. -/
structure Mnd where
  fl : Int × Pk → Option Unit
  ow : Int × Int → Option (Int × Int)
  bk : Int × Pk → Option Int
noncomputable def learnP (M : Mnd) : Lrn → Mnd
  | .no => M
  | .flow i p => { M with fl := putF M.fl (i, p) () }
  | .own i k s => { M with ow := putF M.ow (i, k) s }
  | .back i p b => { M with bk := putF M.bk (i, p) b }
structure SR where
  err : Int
  port : Int
  p : Pk
  l : Lrn
def stayR (e : Int) : SR := ⟨e, 0, zeroP, .no⟩
def passR (port : Int) (p : Pk) : SR := ⟨0, port, p, .no⟩
def rulesOf (d : Dv) : List Rl := d.rules.map fun r => ⟨r.ok, r.a, r.b, r.c, r.d, r.ha, r.hb, r.hc, r.hd⟩
def routesOf (d : Dv) : List Rt := d.routes.map rtOf
def routeP (d : Dv) (p : Pk) : SR := if outB (routesOf d) p.d && letsB (rulesOf d) p.s p.d p.sp p.dp then passR (outN (routesOf d) p.d) p else stayR 7
def askP (d : Dv) (i : Int) (p : Pk) : SR := if letsB (rulesOf d) p.s p.d p.sp p.dp then ⟨0, 1, p, .flow i p⟩ else stayR 7
def answerP (M : Mnd) (i : Int) (p : Pk) : SR := if (M.fl (i, flipP p)).isSome then passR 0 p else stayR 7
/-- The port of a device that a sender has: the first. -/
def ownFrom (M : Mnd) (i : Int) (s : Int × Int) (k : Nat) : Option Nat := if h : k < 8 then (if M.ow (i, (k : Int)) = some s then some k else ownFrom M i s (k + 1)) else none
termination_by 8 - k
def poolB (d : Dv) (c : Int) : Bool := poB c && d.pool.testBit c.toNat
def hideP (d : Dv) (M : Mnd) (i : Int) (p : Pk) (c : Int) : SR :=
  match ownFrom M i (p.s, p.sp) 0 with
  | some k => ⟨0, 1, ⟨d.addr, p.d, (k : Int), p.dp⟩, .own i (k : Int) (p.s, p.sp)⟩
  | none => if poolB d c then (if (M.ow (i, c)).isSome then stayR 6 else ⟨0, 1, ⟨d.addr, p.d, c, p.dp⟩, .own i c (p.s, p.sp)⟩) else stayR 1
def unhideP (d : Dv) (M : Mnd) (i : Int) (p : Pk) : SR :=
  match M.ow (i, p.dp) with
  | some s => if p.d == d.addr then passR 0 ⟨p.s, s.1, p.sp, s.2⟩ else stayR 7
  | none => stayR 7
def spreadP (d : Dv) (M : Mnd) (i : Int) (p : Pk) (c : Int) : SR :=
  if p.d == d.addr then
    match M.bk (i, p) with
    | some b => ⟨0, 1, ⟨p.s, b, p.sp, p.dp⟩, .back i p b⟩
    | none => if decide (0 ≤ c) && decide (c < (d.backs.length : Int)) then ⟨0, 1, ⟨p.s, d.backs.getD c.toNat 0, p.sp, p.dp⟩, .back i p (d.backs.getD c.toNat 0)⟩ else stayR 1
  else passR 1 p
def gatherP (d : Dv) (M : Mnd) (i : Int) (p : Pk) : SR :=
  passR 0 (if M.bk (i, ⟨p.d, d.addr, p.dp, p.sp⟩) = some p.s then ⟨d.addr, p.d, p.sp, p.dp⟩ else p)
def sendP (d : Dv) (M : Mnd) (i q : Int) (p : Pk) (c : Int) : SR :=
  if d.kind = 2 then routeP d p
  else if d.kind = 3 then (if q = 0 then askP d i p else answerP M i p)
  else if d.kind = 4 then (if q = 0 then hideP d M i p c else unhideP d M i p)
  else if d.kind = 5 then (if q = 0 then spreadP d M i p c else gatherP d M i p)
  else stayR 7
structure HR where
  err : Int
  tp : Int × Int
  p : Pk
  M : Mnd
def badH (e : Int) (M : Mnd) : HR := ⟨e, (0, 0), zeroP, M⟩
noncomputable def handleP (ds : List Dv) (ls : List Lk) (M : Mnd) (i q : Int) (p : Pk) (c : Int) : HR :=
  if isPl ds i q then
    (if pkOk p then
      (if (sendP (ds.getD i.toNat default) M i q p c).err = 0 then
        match peerF ls i (sendP (ds.getD i.toNat default) M i q p c).port with
        | some t => ⟨0, t, (sendP (ds.getD i.toNat default) M i q p c).p, learnP M (sendP (ds.getD i.toNat default) M i q p c).l⟩
        | none => badH 7 M
      else badH (sendP (ds.getD i.toNat default) M i q p c).err M)
    else badH 1 M)
  else badH 4 M

/-! ### in memory -/
/-- Where a memory lies. -/
structure Mp where
  z : Nat
  pre : List Value
  post : List Value
  ty : TypeId
  B : Nat
  f : Nat
  o : Nat
  k : Nat
  A : Option Addr
  cap : Nat
  L : Option Addr
  cap' : Nat
/-- A memory of a net, with what is known. -/
structure MemAt (w : World) (m : Mp) (ds : List Dv) (ls : List Lk) (n : Nat) (M : Mnd) : Prop where
  blk : w.heap[m.B]? = some (.cells (m.pre ++ ([Value.slice m.A ds.length m.cap, Value.slice m.L ls.length m.cap', Value.map (some m.f), Value.map (some m.o), Value.map (some m.k)] ++ m.post)).toArray m.ty (0, 0)) ∧ m.pre.length = m.z
  devs : Devs w.heap.size w (.slice m.A ds.length m.cap) ds
  links : Links w.heap.size w (.slice m.L ls.length m.cap') ls
  fl : MapAt pofE unitV w m.f n M.fl
  ow : MapAt prtE endV w m.o n M.ow
  bk : MapAt pofE intV w m.k n M.bk
  fo : m.f ≠ m.o
  fk : m.f ≠ m.k
  ok : m.o ≠ m.k
/-- All but the maps of m is as it was. -/
structure HK (m : Mp) (w w' : World) : Prop where
  os : w'.os = w.os
  tape : w'.tape = w.tape
  output : w'.output = w.output
  size : w.heap.size ≤ w'.heap.size
  block : ∀ b, b < w.heap.size → b ≠ m.f → b ≠ m.o → b ≠ m.k → w'.heap[b]? = w.heap[b]?
/-- All but maps is as it was. -/
structure CK (w w' : World) : Prop where
  size : w.heap.size ≤ w'.heap.size
  block : ∀ b, (∀ es c, w.heap[b]? ≠ some (.map es c)) → b < w.heap.size → w'.heap[b]? = w.heap[b]?
section
variable {w w' w'' : World} {m : Mp} {ds : List Dv} {ls : List Lk} {n : Nat} {M : Mnd}
theorem CK.of_below (h : Below w.heap.size w w') : CK w w' := ⟨h.size, fun b _ hb => h.block b hb⟩
theorem CK.cell (h : CK w w') {a : Addr} {v : Value} (hc : w.cell? a = some v) : w'.cell? a = some v := by
  have hl := World.block_lt_of_cell? w _ hc
  have hb := h.block a.block (fun es c e => by
    unfold World.cell? at hc
    rw [e] at hc
    cases hc) hl
  unfold World.cell? at hc ⊢
  rw [hb]
  exact hc
theorem SlAt.ck {α : Type} {base k : Nat} {R R' : List Value → α → Prop} {v : Value} {xs : List α} (h : SlAt base w k R v xs) (hb : CK w w') (hR : ∀ cs x, x ∈ xs → R cs x → R' cs x) : SlAt base w' k R' v xs := by
  obtain ⟨A, cap, e, h0, h1, h2, h3⟩ := h
  refine ⟨A, cap, e, h0, h1, h2, fun hn => ?_⟩
  obtain ⟨b, o, ea, hl, hr⟩ := h3 hn
  refine ⟨b, o, ea, hl, fun k x hx => ?_⟩
  obtain ⟨cs, c1, c2, c3⟩ := hr k x hx
  exact ⟨cs, c1, hR cs x (List.mem_of_getElem? hx) c2, fun j u hj => hb.cell (c3 j u hj)⟩
theorem IsDv.ck {base : Nat} {cs : List Value} {d : Dv} (h : IsDv base w cs d) (hb : CK w w') : IsDv base w' cs d := by
  obtain ⟨vb, vr, vt, e, h1, h2, h3⟩ := h
  exact ⟨vb, vr, vt, e, h1.ck hb (fun _ _ _ h => h), h2.ck hb (fun _ _ _ h => h), h3.ck hb (fun _ _ _ h => h)⟩
theorem Devs.ck {base : Nat} {v : Value} (h : Devs base w v ds) (hb : CK w w') : Devs base w' v ds := SlAt.ck h hb (fun _ _ _ h => h.ck hb)
theorem Links.ck {base : Nat} {v : Value} (h : Links base w v ls) (hb : CK w w') : Links base w' v ls := SlAt.ck h hb (fun _ _ _ h => h)
theorem HK.refl (m : Mp) (w : World) : HK m w w := ⟨rfl, rfl, rfl, Nat.le_refl _, fun _ _ _ _ _ => rfl⟩
theorem HK.trans (h : HK m w w') (g : HK m w' w'') : HK m w w'' :=
  ⟨g.os.trans h.os, g.tape.trans h.tape, g.output.trans h.output, Nat.le_trans h.size g.size, fun b hb h1 h2 h3 => (g.block b (Nat.lt_of_lt_of_le hb h.size) h1 h2 h3).trans (h.block b hb h1 h2 h3)⟩
theorem HK.of_below (h : Below w.heap.size w w') : HK m w w' := ⟨h.os, h.tape, h.output, h.size, fun b hb _ _ _ => h.block b hb⟩
theorem mapTurned_size {b : Nat} (h : w.mapTurned w' b) : w'.heap.size = w.heap.size := by
  obtain ⟨es, c, es', c', hb, rfl⟩ := h
  simp [ChangeMaps.setBlock]
theorem mapTurned_block {b x : Nat} (h : w.mapTurned w' b) (hx : x ≠ b) : w'.heap[x]? = w.heap[x]? := by
  have g := h.grown
  by_cases hl : x < w.heap.size
  · exact g.block x hl (by simpa using hx)
  · rw [Array.getElem?_eq_none (xs := w'.heap) (by rw [mapTurned_size h]; omega), Array.getElem?_eq_none (xs := w.heap) (by omega)]
theorem HK.of_turned {b : Nat} (h : w.mapTurned w' b) (hb : b = m.f ∨ b = m.o ∨ b = m.k) : HK m w w' := by
  have g := h.grown
  exact ⟨g.os, g.tape, g.output, g.size, fun x hx h1 h2 h3 => mapTurned_block h (by omega)⟩
theorem CK.of_turned {b : Nat} (h : w.mapTurned w' b) : CK w w' := by
  refine ⟨by rw [mapTurned_size h]; omega, fun x hx hl => mapTurned_block h (fun e => ?_)⟩
  obtain ⟨es, c, _, _, hb, _⟩ := h
  exact hx es c (by rw [e]; exact hb)
theorem MemAt.ck (h : MemAt w m ds ls n M) (hk : HK m w w') : CK w w' := by
  refine ⟨hk.size, fun b hb hl => hk.block b hl ?_ ?_ ?_⟩
  · rintro rfl
    obtain ⟨es, c, e⟩ := h.fl.isMap
    exact hb es c e
  · rintro rfl
    obtain ⟨es, c, e⟩ := h.ow.isMap
    exact hb es c e
  · rintro rfl
    obtain ⟨es, c, e⟩ := h.bk.isMap
    exact hb es c e
theorem MemAt.notMap (h : MemAt w m ds ls n M) : ∀ es c, w.heap[m.B]? ≠ some (.map es c) := fun es c e => by
  rw [h.blk.1] at e
  cases e
theorem MemAt.lt (h : MemAt w m ds ls n M) : m.B < w.heap.size := (Array.getElem?_eq_some_iff.1 h.blk.1).1
/-- A memory stays where all stays. -/
theorem MemAt.below (h : MemAt w m ds ls n M) (hb : Below w.heap.size w w') : MemAt w' m ds ls n M :=
  ⟨⟨(hb.block _ h.lt).trans h.blk.1, h.blk.2⟩, (h.devs.below hb).mono hb.size, (h.links.below hb).mono hb.size, h.fl.same (hb.block _ h.fl.lt), h.ow.same (hb.block _ h.ow.lt), h.bk.same (hb.block _ h.bk.lt), h.fo, h.fk, h.ok⟩
theorem MemAt.drew (h : MemAt w m ds ls n M) : MemAt w.drew m ds ls n M := ⟨h.blk, h.devs, h.links, h.fl, h.ow, h.bk, h.fo, h.fk, h.ok⟩
theorem MemAt.alloc (h : MemAt w m ds ls n M) (o : Obj) : MemAt (w.alloc o) m ds ls n M := h.below ((Below.refl _ _).alloc (Nat.le_refl _) o)
theorem MemAt.mono (h : MemAt w m ds ls n M) {n' : Nat} (hn : n ≤ n') : MemAt w m ds ls n' M := ⟨h.blk, h.devs, h.links, h.fl.mono hn, h.ow.mono hn, h.bk.mono hn, h.fo, h.fk, h.ok⟩
/-- A memory stays where its own blocks do, and the others' cells. -/
theorem MemAt.kept (h : MemAt w m ds ls n M) (hc : CK w w') (h1 : w'.heap[m.f]? = w.heap[m.f]?) (h2 : w'.heap[m.o]? = w.heap[m.o]?) (h3 : w'.heap[m.k]? = w.heap[m.k]?) : MemAt w' m ds ls n M :=
  ⟨⟨(hc.block _ h.notMap h.lt).trans h.blk.1, h.blk.2⟩, (h.devs.ck hc).mono hc.size, (h.links.ck hc).mono hc.size, h.fl.same h1, h.ow.same h2, h.bk.same h3, h.fo, h.fk, h.ok⟩
/-- A memory stays while another one learns. -/
theorem MemAt.other {m' : Mp} {ds' : List Dv} {ls' : List Lk} {n' : Nat} {M' : Mnd} (h : MemAt w m ds ls n M) (h' : MemAt w m' ds' ls' n' M') (hk : HK m' w w') (hd : ∀ x, (x = m.f ∨ x = m.o ∨ x = m.k) → x ≠ m'.f ∧ x ≠ m'.o ∧ x ≠ m'.k) : MemAt w' m ds ls n M :=
  h.kept (h'.ck hk) (hk.block _ h.fl.lt (hd _ (by simp)).1 (hd _ (by simp)).2.1 (hd _ (by simp)).2.2) (hk.block _ h.ow.lt (hd _ (by simp)).1 (hd _ (by simp)).2.1 (hd _ (by simp)).2.2) (hk.block _ h.bk.lt (hd _ (by simp)).1 (hd _ (by simp)).2.1 (hd _ (by simp)).2.2)
/-- A memory's five cells. -/
theorem MemAt.cells (h : MemAt w m ds ls n M) : w.cell? ⟨m.B, m.z, none⟩ = some (.slice m.A ds.length m.cap) ∧ w.cell? ⟨m.B, m.z + 1, none⟩ = some (.slice m.L ls.length m.cap') ∧ w.cell? ⟨m.B, m.z + 2, none⟩ = some (.map (some m.f)) ∧ w.cell? ⟨m.B, m.z + 3, none⟩ = some (.map (some m.o)) ∧ w.cell? ⟨m.B, m.z + 4, none⟩ = some (.map (some m.k)) := by
  have hz := h.blk.2
  refine ⟨?_, ?_, ?_, ?_, ?_⟩ <;> (rw [cell_of_row w m.B _ _ _ _ h.blk.1, List.getElem?_toArray, ← hz, List.getElem?_append_right (by omega)]; simp)
end
theorem uMf : Tryz.prog.underlying 75 = some (.map 136 137) := by kernel_rfl
theorem uMo : Tryz.prog.underlying 76 = some (.map 145 140) := by kernel_rfl
theorem uMk : Tryz.prog.underlying 77 = some (.map 136 3) := by kernel_rfl
section
variable {w : World} {m : Mp} {ds : List Dv} {ls : List Lk} {n : Nat} {M : Mnd}
/-- What a memory knows is looked up. -/
theorem MemAt.lookF (h : MemAt w m ds ls n M) {i : Int} {p : Pk} (hi : i64ok i) (hp : p.ok) : (Instr.lookup 75 (.map (some m.f)) (.agg #[.int .i64 i, .int .i64 p.s, .int .i64 p.d, .int .i64 p.sp, .int .i64 p.dp]) true).run Tryz.prog w = .ok (.tuple #[.agg #[], .bool (M.fl (i, p)).isSome]) w := h.fl.look uMf (x := (i, p)) ⟨hi, hp⟩
theorem MemAt.lookO (h : MemAt w m ds ls n M) {i k : Int} (hi : i64ok i) (hk : i64ok k) : (Instr.lookup 76 (.map (some m.o)) (.agg #[.int .i64 i, .int .i64 k]) true).run Tryz.prog w = .ok (.tuple #[.agg #[.int .i64 ((M.ow (i, k)).getD (0, 0)).1, .int .i64 ((M.ow (i, k)).getD (0, 0)).2], .bool (M.ow (i, k)).isSome]) w := h.ow.look uMo (x := (i, k)) ⟨hi, hk⟩
theorem MemAt.lookB (h : MemAt w m ds ls n M) {i : Int} {p : Pk} (hi : i64ok i) (hp : p.ok) : (Instr.lookup 77 (.map (some m.k)) (.agg #[.int .i64 i, .int .i64 p.s, .int .i64 p.d, .int .i64 p.sp, .int .i64 p.dp]) true).run Tryz.prog w = .ok (.tuple #[.int .i64 ((M.bk (i, p)).getD 0), .bool (M.bk (i, p)).isSome]) w := h.bk.look uMk (x := (i, p)) ⟨hi, hp⟩
end
end Go.Proofs.YthioedgnambomaaGreat



namespace Go.Proofs.YthioedgnambomaaGreat
open Go.RowKit Go.Maps

abbrev pkC (p : Pk) : Obj := .cells #[.int .i64 p.s, .int .i64 p.d, .int .i64 p.sp, .int .i64 p.dp] 29
/-- A packet that leaves. -/
abbrev lvA (q : Int) (p : Pk) (fv : Value) : Value := .agg #[.int .i64 q, .int .i64 p.s, .int .i64 p.d, .int .i64 p.sp, .int .i64 p.dp, fv]
set_option maxHeartbeats 1000000 in
theorem pisAddr_any (n : Int) (w : World) : Calls Tryz.prog 28 #[.int .i64 n] w fun e w' => e = .returned (.bool (adB n)) ∧ w' = w := by
  unfold adB
  cases h1 : decide (0 ≤ n)
  · go_enter Tryz.func28, Tryz.ntmps28
    go_wp2_with fail
    go_ret
    exact ⟨by simp, rfl⟩
  · go_enter Tryz.func28, Tryz.ntmps28
    go_wp2_with fail
    go_ret
    exact ⟨by simp, rfl⟩
set_option maxHeartbeats 1000000 in
theorem pisPort_any (n : Int) (w : World) : Calls Tryz.prog 29 #[.int .i64 n] w fun e w' => e = .returned (.bool (poB n)) ∧ w' = w := by
  unfold poB
  cases h1 : decide (0 ≤ n)
  · go_enter Tryz.func29, Tryz.ntmps29
    go_wp2_with fail
    go_ret
    exact ⟨by simp, rfl⟩
  · go_enter Tryz.func29, Tryz.ntmps29
    go_wp2_with fail
    go_ret
    exact ⟨by simp, rfl⟩
set_option maxHeartbeats 2000000 in
theorem pcheck_any (p : Pk) (w : World) : Calls Tryz.prog 17 #[pkV p] w fun e w' => e = .returned (.int .i64 (if pkOk p then 0 else 1)) ∧ Below w.heap.size w w' := by
  obtain ⟨s, d, sp, dp⟩ := p
  have D0 := Below.alN (Below.refl w.heap.size w) (pkC ⟨s, d, sp, dp⟩)
  have A1 : Hid (∀ w, Calls Tryz.prog 28 #[.int .i64 s] w fun e w' => e = .returned (.bool (adB s)) ∧ w' = w) := fun w => pisAddr_any s w
  have A2 : Hid (∀ w, Calls Tryz.prog 28 #[.int .i64 d] w fun e w' => e = .returned (.bool (adB d)) ∧ w' = w) := fun w => pisAddr_any d w
  have A3 : Hid (∀ w, Calls Tryz.prog 29 #[.int .i64 sp] w fun e w' => e = .returned (.bool (poB sp)) ∧ w' = w) := fun w => pisPort_any sp w
  have A4 : Hid (∀ w, Calls Tryz.prog 29 #[.int .i64 dp] w fun e w' => e = .returned (.bool (poB dp)) ∧ w' = w) := fun w => pisPort_any dp w
  unfold pkOk
  simp only
  generalize adB s = x1 at *
  generalize adB d = x2 at *
  generalize poB sp = x3 at *
  generalize poB dp = x4 at *
  cases x1
  · go_enter Tryz.func17, Tryz.ntmps17
    go_wp2_with fail
    refine (A1.out _).mono ?_
    rintro e w' ⟨rfl, rfl⟩
    go_wp2_with fail
    go_ret
    exact ⟨by simp, D0⟩
  cases x2
  · go_enter Tryz.func17, Tryz.ntmps17
    go_wp2_with fail
    refine (A1.out _).mono ?_
    rintro e w' ⟨rfl, rfl⟩
    go_wp2_with fail
    refine (A2.out _).mono ?_
    rintro e w' ⟨rfl, rfl⟩
    go_wp2_with fail
    go_ret
    exact ⟨by simp, D0⟩
  cases x3
  · go_enter Tryz.func17, Tryz.ntmps17
    go_wp2_with fail
    refine (A1.out _).mono ?_
    rintro e w' ⟨rfl, rfl⟩
    go_wp2_with fail
    refine (A2.out _).mono ?_
    rintro e w' ⟨rfl, rfl⟩
    go_wp2_with fail
    refine (A3.out _).mono ?_
    rintro e w' ⟨rfl, rfl⟩
    go_wp2_with fail
    go_ret
    exact ⟨by simp, D0⟩
  cases x4
  all_goals
    go_enter Tryz.func17, Tryz.ntmps17
    go_wp2_with fail
    refine (A1.out _).mono ?_
    rintro e w' ⟨rfl, rfl⟩
    go_wp2_with fail
    refine (A2.out _).mono ?_
    rintro e w' ⟨rfl, rfl⟩
    go_wp2_with fail
    refine (A3.out _).mono ?_
    rintro e w' ⟨rfl, rfl⟩
    go_wp2_with fail
    refine (A4.out _).mono ?_
    rintro e w' ⟨rfl, rfl⟩
    go_wp2_with fail
    go_ret
    exact ⟨by simp, D0⟩
set_option maxHeartbeats 1000000 in
theorem pflip_any (p : Pk) (w : World) : Calls Tryz.prog 97 #[pkV p] w fun e w' => e = .returned (pkV (flipP p)) ∧ Below w.heap.size w w' := by
  obtain ⟨s, d, sp, dp⟩ := p
  go_enter Tryz.func97, Tryz.ntmps97
  go_wp2_with fail
  refine bodyPost_ret (v := pkV ⟨d, s, dp, sp⟩) (by simp [results, Tryz.results97, go_sem]) rfl ⟨rfl, ?_⟩
  exact Below.alN (Below.alN (Below.refl _ _) _) _
set_option maxHeartbeats 1000000 in
theorem stay_any (w : World) : Calls Tryz.prog 89 #[] w fun e w' => e = .returned (.tuple #[lvA 0 zeroP .nilFunc, .int .i64 7]) ∧ Below w.heap.size w w' := by
  go_enter Tryz.func89, Tryz.ntmps89
  go_wp2_with fail
  refine bodyPost_ret (v := .tuple #[lvA 0 zeroP .nilFunc, .int .i64 7]) (by simp [results, Tryz.results89, go_sem, zeroP]) rfl ⟨rfl, ?_⟩
  exact Below.alN (Below.refl _ _) _
set_option maxHeartbeats 1000000 in
theorem pass_any (q : Int) (p : Pk) (w : World) : Calls Tryz.prog 95 #[.int .i64 q, pkV p] w fun e w' => e = .returned (.tuple #[lvA q p (.func (.func 104) #[] #[]), .int .i64 0]) ∧ Below w.heap.size w w' := by
  obtain ⟨s, d, sp, dp⟩ := p
  go_enter Tryz.func95, Tryz.ntmps95
  go_wp2_with fail
  refine bodyPost_ret (v := .tuple #[lvA q ⟨s, d, sp, dp⟩ (.func (.func 104) #[] #[]), .int .i64 0]) (by simp [results, Tryz.results95, go_sem]) rfl ⟨rfl, ?_⟩
  exact Below.alN (Below.alN (Below.refl _ _) _) _
set_option maxHeartbeats 1000000 in
theorem pass1_any (w : World) : Calls Tryz.prog 104 #[] w fun e w' => e = .returned (.tuple #[]) ∧ w' = w := by
  go_enter Tryz.func104, Tryz.ntmps104
  go_wp2_with fail
  go_returns
  exact ⟨rfl, rfl⟩

/-! ### what is learned, and forgotten -/
section
variable {w : World} {m : Mp} {ds : List Dv} {ls : List Lk} {n : Nat} {M : Mnd}
theorem MemAt.ne_f (h : MemAt w m ds ls n M) : m.B ≠ m.f := fun e => by
  obtain ⟨es, c, hb⟩ := h.fl.isMap
  exact h.notMap es c (by rw [e]; exact hb)
theorem MemAt.ne_o (h : MemAt w m ds ls n M) : m.B ≠ m.o := fun e => by
  obtain ⟨es, c, hb⟩ := h.ow.isMap
  exact h.notMap es c (by rw [e]; exact hb)
theorem MemAt.ne_k (h : MemAt w m ds ls n M) : m.B ≠ m.k := fun e => by
  obtain ⟨es, c, hb⟩ := h.bk.isMap
  exact h.notMap es c (by rw [e]; exact hb)
theorem MemAt.turnF {w' : World} {n' : Nat} {g : Int × Pk → Option Unit} (h : MemAt w m ds ls n M) (hn : n ≤ n') (hf : MapAt pofE unitV w' m.f n' g) (ht : w.mapTurned w' m.f) : MemAt w' m ds ls n' { M with fl := g } ∧ HK m w w' := by
  have hc := CK.of_turned ht
  exact ⟨⟨⟨(mapTurned_block ht h.ne_f).trans h.blk.1, h.blk.2⟩, (h.devs.ck hc).mono hc.size, (h.links.ck hc).mono hc.size, hf, (h.ow.same (mapTurned_block ht h.fo.symm)).mono hn, (h.bk.same (mapTurned_block ht h.fk.symm)).mono hn, h.fo, h.fk, h.ok⟩, HK.of_turned ht (by simp)⟩
theorem MemAt.turnO {w' : World} {n' : Nat} {g : Int × Int → Option (Int × Int)} (h : MemAt w m ds ls n M) (hn : n ≤ n') (hf : MapAt prtE endV w' m.o n' g) (ht : w.mapTurned w' m.o) : MemAt w' m ds ls n' { M with ow := g } ∧ HK m w w' := by
  have hc := CK.of_turned ht
  exact ⟨⟨⟨(mapTurned_block ht h.ne_o).trans h.blk.1, h.blk.2⟩, (h.devs.ck hc).mono hc.size, (h.links.ck hc).mono hc.size, (h.fl.same (mapTurned_block ht h.fo)).mono hn, hf, (h.bk.same (mapTurned_block ht h.ok.symm)).mono hn, h.fo, h.fk, h.ok⟩, HK.of_turned ht (by simp)⟩
theorem MemAt.turnK {w' : World} {n' : Nat} {g : Int × Pk → Option Int} (h : MemAt w m ds ls n M) (hn : n ≤ n') (hf : MapAt pofE intV w' m.k n' g) (ht : w.mapTurned w' m.k) : MemAt w' m ds ls n' { M with bk := g } ∧ HK m w w' := by
  have hc := CK.of_turned ht
  exact ⟨⟨⟨(mapTurned_block ht h.ne_k).trans h.blk.1, h.blk.2⟩, (h.devs.ck hc).mono hc.size, (h.links.ck hc).mono hc.size, (h.fl.same (mapTurned_block ht h.fk)).mono hn, (h.ow.same (mapTurned_block ht h.ok)).mono hn, hf, h.fo, h.fk, h.ok⟩, HK.of_turned ht (by simp)⟩
theorem MemAt.learnF (h : MemAt w m ds ls n M) (hn : n < maxLen) {i : Int} {p : Pk} (hi : i64ok i) (hp : p.ok) : ∃ w', (Instr.mapUpdate 75 (.map (some m.f)) (.agg #[.int .i64 i, .int .i64 p.s, .int .i64 p.d, .int .i64 p.sp, .int .i64 p.dp]) (.agg #[])).run Tryz.prog w = .ok () w' ∧ MemAt w' m ds ls (n + 1) (learnP M (.flow i p)) ∧ HK m w w' := by
  obtain ⟨w', hr, hm, ht⟩ := h.fl.store uMf hn (x := (i, p)) ⟨hi, hp⟩ ()
  exact ⟨w', hr, h.turnF (by omega) hm ht⟩
theorem MemAt.learnO (h : MemAt w m ds ls n M) (hn : n < maxLen) {i k : Int} {s : Int × Int} (hi : i64ok i) (hk : i64ok k) : ∃ w', (Instr.mapUpdate 76 (.map (some m.o)) (.agg #[.int .i64 i, .int .i64 k]) (.agg #[.int .i64 s.1, .int .i64 s.2])).run Tryz.prog w = .ok () w' ∧ MemAt w' m ds ls (n + 1) (learnP M (.own i k s)) ∧ HK m w w' := by
  obtain ⟨w', hr, hm, ht⟩ := h.ow.store uMo hn (x := (i, k)) ⟨hi, hk⟩ s
  exact ⟨w', hr, h.turnO (by omega) hm ht⟩
theorem MemAt.learnB (h : MemAt w m ds ls n M) (hn : n < maxLen) {i : Int} {p : Pk} {b : Int} (hi : i64ok i) (hp : p.ok) : ∃ w', (Instr.mapUpdate 77 (.map (some m.k)) (.agg #[.int .i64 i, .int .i64 p.s, .int .i64 p.d, .int .i64 p.sp, .int .i64 p.dp]) (.int .i64 b)).run Tryz.prog w = .ok () w' ∧ MemAt w' m ds ls (n + 1) (learnP M (.back i p b)) ∧ HK m w w' := by
  obtain ⟨w', hr, hm, ht⟩ := h.bk.store uMk hn (x := (i, p)) ⟨hi, hp⟩ b
  exact ⟨w', hr, h.turnK (by omega) hm ht⟩
end
/-- What a function that learns reads: in blocks from N on. -/
def LrnAt (N : Nat) (w : World) (m : Mp) (fv : Value) : Lrn → Prop
  | .no => fv = .func (.func 104) #[] #[]
  | .flow i p => i64ok i ∧ p.ok ∧ ∃ a b, fv = .func (.func 96) #[] #[.pointer (some ⟨a, 0, none⟩), .pointer (some ⟨b, 0, none⟩)] ∧ N ≤ a ∧ N ≤ b ∧ w.cell? ⟨a, 0, none⟩ = some (.pointer (some ⟨m.B, m.z, none⟩)) ∧ w.cell? ⟨b, 0, none⟩ = some (.int .i64 i) ∧ w.cell? ⟨b, 1, none⟩ = some (.int .i64 p.s) ∧ w.cell? ⟨b, 2, none⟩ = some (.int .i64 p.d) ∧ w.cell? ⟨b, 3, none⟩ = some (.int .i64 p.sp) ∧ w.cell? ⟨b, 4, none⟩ = some (.int .i64 p.dp)
  | .own i k s => i64ok i ∧ i64ok k ∧ ∃ a b c d, fv = .func (.func 100) #[] #[.pointer (some ⟨a, 0, none⟩), .pointer (some ⟨b, 0, none⟩), .pointer (some ⟨c, 0, none⟩), .pointer (some ⟨d, 0, none⟩)] ∧ N ≤ a ∧ N ≤ b ∧ N ≤ c ∧ N ≤ d ∧ w.cell? ⟨a, 0, none⟩ = some (.int .i64 s.1) ∧ w.cell? ⟨a, 1, none⟩ = some (.int .i64 s.2) ∧ w.cell? ⟨b, 0, none⟩ = some (.pointer (some ⟨m.B, m.z, none⟩)) ∧ w.cell? ⟨c, 0, none⟩ = some (.int .i64 i) ∧ w.cell? ⟨d, 0, none⟩ = some (.int .i64 k)
  | .back i p x => i64ok i ∧ p.ok ∧ ∃ a b c, fv = .func (.func 101) #[] #[.pointer (some ⟨a, 0, none⟩), .pointer (some ⟨b, 0, none⟩), .pointer (some ⟨c, 0, none⟩)] ∧ N ≤ a ∧ N ≤ b ∧ N ≤ c ∧ w.cell? ⟨a, 0, none⟩ = some (.int .i64 x) ∧ w.cell? ⟨b, 0, none⟩ = some (.pointer (some ⟨m.B, m.z, none⟩)) ∧ w.cell? ⟨c, 0, none⟩ = some (.int .i64 i) ∧ w.cell? ⟨c, 1, none⟩ = some (.int .i64 p.s) ∧ w.cell? ⟨c, 2, none⟩ = some (.int .i64 p.d) ∧ w.cell? ⟨c, 3, none⟩ = some (.int .i64 p.sp) ∧ w.cell? ⟨c, 4, none⟩ = some (.int .i64 p.dp)
theorem LrnAt.keep {N N' : Nat} {w w' : World} {m : Mp} {fv : Value} {l : Lrn} (h : LrnAt N w m fv l) (hN : N' ≤ N) (C : ∀ {b o : Nat} {v : Value}, N ≤ b → w.cell? ⟨b, o, none⟩ = some v → w'.cell? ⟨b, o, none⟩ = some v) : LrnAt N' w' m fv l := by
  cases l with
  | no => exact h
  | flow i p =>
    obtain ⟨hi, hp, a, b, e, n1, n2, h0, h1, h2, h3, h4, h5⟩ := h
    exact ⟨hi, hp, a, b, e, by omega, by omega, C n1 h0, C n2 h1, C n2 h2, C n2 h3, C n2 h4, C n2 h5⟩
  | own i k s =>
    obtain ⟨hi, hp, a, b, c, d, e, n1, n2, n3, n4, h0, h1, h2, h3, h4⟩ := h
    exact ⟨hi, hp, a, b, c, d, e, by omega, by omega, by omega, by omega, C n1 h0, C n1 h1, C n2 h2, C n3 h3, C n4 h4⟩
  | back i p x =>
    obtain ⟨hi, hp, a, b, c, e, n1, n2, n3, h0, h1, h2, h3, h4, h5, h6⟩ := h
    exact ⟨hi, hp, a, b, c, e, by omega, by omega, by omega, C n1 h0, C n2 h1, C n3 h2, C n3 h3, C n3 h4, C n3 h5, C n3 h6⟩
theorem LrnAt.below {N : Nat} {w w' : World} {m : Mp} {fv : Value} {l : Lrn} (h : LrnAt N w m fv l) (hb : Below w.heap.size w w') : LrnAt N w' m fv l :=
  h.keep (Nat.le_refl _) (fun _ hc => (CK.of_below hb).cell hc)
set_option maxHeartbeats 1000000 in
theorem ask1_any (a b : Nat) (m : Mp) (ds : List Dv) (ls : List Lk) (n : Nat) (M : Mnd) (i : Int) (p : Pk) (w : World) (hM : Hid (MemAt w m ds ls n M)) (hn : n < maxLen) (hi : i64ok i) (hp : p.ok) (h0 : w.cell? ⟨a, 0, none⟩ = some (.pointer (some ⟨m.B, m.z, none⟩))) (h1 : w.cell? ⟨b, 0, none⟩ = some (.int .i64 i)) (h2 : w.cell? ⟨b, 1, none⟩ = some (.int .i64 p.s)) (h3 : w.cell? ⟨b, 2, none⟩ = some (.int .i64 p.d)) (h4 : w.cell? ⟨b, 3, none⟩ = some (.int .i64 p.sp)) (h5 : w.cell? ⟨b, 4, none⟩ = some (.int .i64 p.dp)) :
    Calls Tryz.prog 96 #[.pointer (some ⟨a, 0, none⟩), .pointer (some ⟨b, 0, none⟩)] w fun e w' => e = .returned (.tuple #[]) ∧ MemAt w' m ds ls (n + 1) (learnP M (.flow i p)) ∧ HK m w w' := by
  obtain ⟨w1, hrun, hm, hk⟩ := hM.out.drew.learnF hn hi hp
  have hk' : HK m w w1 := (HK.of_below (Below.drew (Below.refl _ _))).trans hk
  obtain ⟨_, _, q0, _, _⟩ := hM.out.cells
  clear hM hi hp hn hk
  go_enter Tryz.func96, Tryz.ntmps96
  go_region
  go_returns
  exact ⟨rfl, hm, hk'⟩
set_option maxHeartbeats 1000000 in
theorem hide1_any (a b c d : Nat) (m : Mp) (ds : List Dv) (ls : List Lk) (n : Nat) (M : Mnd) (i k : Int) (s : Int × Int) (w : World) (hM : Hid (MemAt w m ds ls n M)) (hn : n < maxLen) (hi : i64ok i) (hk : i64ok k) (h0 : w.cell? ⟨a, 0, none⟩ = some (.int .i64 s.1)) (h1 : w.cell? ⟨a, 1, none⟩ = some (.int .i64 s.2)) (h2 : w.cell? ⟨b, 0, none⟩ = some (.pointer (some ⟨m.B, m.z, none⟩))) (h3 : w.cell? ⟨c, 0, none⟩ = some (.int .i64 i)) (h4 : w.cell? ⟨d, 0, none⟩ = some (.int .i64 k)) :
    Calls Tryz.prog 100 #[.pointer (some ⟨a, 0, none⟩), .pointer (some ⟨b, 0, none⟩), .pointer (some ⟨c, 0, none⟩), .pointer (some ⟨d, 0, none⟩)] w fun e w' => e = .returned (.tuple #[]) ∧ MemAt w' m ds ls (n + 1) (learnP M (.own i k s)) ∧ HK m w w' := by
  obtain ⟨w1, hrun, hm, hk1⟩ := hM.out.drew.learnO hn (s := s) hi hk
  have hk' : HK m w w1 := (HK.of_below (Below.drew (Below.refl _ _))).trans hk1
  obtain ⟨_, _, _, q0, _⟩ := hM.out.cells
  clear hM hi hk hn hk1
  go_enter Tryz.func100, Tryz.ntmps100
  go_region
  go_returns
  exact ⟨rfl, hm, hk'⟩
set_option maxHeartbeats 1000000 in
theorem spread1_any (a b c : Nat) (m : Mp) (ds : List Dv) (ls : List Lk) (n : Nat) (M : Mnd) (i : Int) (p : Pk) (x : Int) (w : World) (hM : Hid (MemAt w m ds ls n M)) (hn : n < maxLen) (hi : i64ok i) (hp : p.ok) (h6 : w.cell? ⟨a, 0, none⟩ = some (.int .i64 x)) (h0 : w.cell? ⟨b, 0, none⟩ = some (.pointer (some ⟨m.B, m.z, none⟩))) (h1 : w.cell? ⟨c, 0, none⟩ = some (.int .i64 i)) (h2 : w.cell? ⟨c, 1, none⟩ = some (.int .i64 p.s)) (h3 : w.cell? ⟨c, 2, none⟩ = some (.int .i64 p.d)) (h4 : w.cell? ⟨c, 3, none⟩ = some (.int .i64 p.sp)) (h5 : w.cell? ⟨c, 4, none⟩ = some (.int .i64 p.dp)) :
    Calls Tryz.prog 101 #[.pointer (some ⟨a, 0, none⟩), .pointer (some ⟨b, 0, none⟩), .pointer (some ⟨c, 0, none⟩)] w fun e w' => e = .returned (.tuple #[]) ∧ MemAt w' m ds ls (n + 1) (learnP M (.back i p x)) ∧ HK m w w' := by
  obtain ⟨w1, hrun, hm, hk⟩ := hM.out.drew.learnB hn (b := x) hi hp
  have hk' : HK m w w1 := (HK.of_below (Below.drew (Below.refl _ _))).trans hk
  obtain ⟨_, _, _, _, q0⟩ := hM.out.cells
  clear hM hi hp hn hk
  go_enter Tryz.func101, Tryz.ntmps101
  go_region
  go_returns
  exact ⟨rfl, hm, hk'⟩
end Go.Proofs.YthioedgnambomaaGreat


