/-
  Rest, In, and the closures of the document's answer that read tables.
-/
import Derived.Test.YtgcimcpcnoojnaaRef2
namespace Go.Proofs.Ytgcimcpcnoojnaa
open Go.RowKit Go.Maps

theorem rest_any (w : World) (n : Int) (m : Nat) (hm : 0 < m) (hm2 : m < 1000) :
    Calls Try.prog 39 #[.int .i64 n, .int .i64 (m : Int)] w fun e w' => e = .returned (.int .i64 (n % (m : Int))) ∧ w' = w := by
  have hm0 : ((m : Int) == 0) = false := by simp; omega
  have hmne : (m : Int) ≠ 0 := by omega
  have b1 := Int.emod_nonneg n hmne
  have b2 := Int.emod_lt_of_pos n (b := (m : Int)) (by omega)
  have key : n.tmod (m : Int) = n % (m : Int) ∨ n.tmod (m : Int) = n % (m : Int) - (m : Int) := by
    rw [Int.tmod_eq_emod]
    split
    · exact Or.inl (by omega)
    · exact Or.inr (by simp)
  have hw : IntKind.i64.wrap (n.tmod (m : Int)) = n.tmod (m : Int) := IntWalk.i64_in _ (by omega)
  have key' := Hq.mk key
  clear key
  go_enter Try.func39, Try.ntmps39
  go_wp2_with fail
  · have hlt : n.tmod (m : Int) < 0 := by assumption
    have e : n.tmod (m : Int) + (m : Int) = n % (m : Int) := by rcases key'.out with k | k <;> omega
    have e2 : wrap64 (n.tmod (m : Int) + (m : Int)) = n % (m : Int) := by rw [e, ← IntWalk.i64_left]; exact IntWalk.i64_in _ (by omega)
    go_ret
    refine ⟨?_, rfl⟩
    show Ending.returned (Value.int .i64 (wrap64 (n.tmod (m : Int) + (m : Int)))) = _
    rw [e2]
  · have hge : 0 ≤ n.tmod (m : Int) := by assumption
    have e : n.tmod (m : Int) = n % (m : Int) := by rcases key'.out with k | k <;> omega
    go_ret
    refine ⟨?_, rfl⟩
    show Ending.returned (Value.int .i64 (n.tmod (m : Int))) = _
    rw [e]


theorem in_any (w : World) (n lo hi : Int) : Calls Try.prog 10 #[.int .i64 n, .int .i64 lo, .int .i64 hi] w fun e w' => e = .returned (.bool (decide (lo ≤ n) && decide (n ≤ hi))) ∧ w' = w := by
  by_cases h0 : lo ≤ n
  · have t0 : decide (lo ≤ n) = true := by simpa using h0
    go_enter Try.func10, Try.ntmps10
    go_wp2_with fail
    go_ret
    exact ⟨by simp [h0], rfl⟩
  · have t0 : decide (lo ≤ n) = false := by simpa using h0
    go_enter Try.func10, Try.ntmps10
    go_wp2_with fail
    go_ret
    exact ⟨by simp, rfl⟩
theorem clo7 (w : World) (b : Nat) : Calls Try.prog 12 #[.int .i64 (b : Int)] w fun e w' => e = .returned (.bool false) ∧ w' = w := by
  go_enter Try.func12, Try.ntmps12
  go_wp2_with fail
  go_ret
  exact ⟨rfl, rfl⟩
theorem clo8 (w : World) (b : Nat) : Calls Try.prog 13 #[.int .i64 (b : Int)] w fun e w' => e = .returned (.bool true) ∧ w' = w := by
  go_enter Try.func13, Try.ntmps13
  go_wp2_with fail
  go_ret
  exact ⟨rfl, rfl⟩

/-- A function that is known: its number, and its table. -/
structure SeenAt (w : World) (A : Nat) (id tb n : Nat) (t : Nat → Bool) : Prop where
  c0 : w.cell? ⟨A, 0, none⟩ = some (.int .i64 (id : Int))
  c1 : w.cell? ⟨A, 1, none⟩ = some (.slice (some ⟨tb, 0, none⟩) n n)
  tab : Tab w tb n t
theorem SeenAt.below {w w' : World} {A id tb n : Nat} {t : Nat → Bool} (h : SeenAt w A id tb n t) (hb : Below w.heap.size w w') : SeenAt w' A id tb n t :=
  ⟨(hb.cell (p := ⟨A, 0, none⟩) (World.block_lt_of_cell? w _ h.c0)).trans h.c0, (hb.cell (p := ⟨A, 1, none⟩) (World.block_lt_of_cell? w _ h.c1)).trans h.c1, World.rowIs.of_block h.tab (hb.block _ (World.rowIs.lt h.tab))⟩

section
variable {w : World} {A B D n b : Nat} {ia ib id ta tb td : Nat} {s t u : Nat → Bool}
theorem clo20 (hA : SeenAt w A ia ta n s) (hb : b < n) : Calls Try.prog 59 #[.int .i64 (b : Int), .pointer (some ⟨A, 0, none⟩)] w fun e w' => e = .returned (.bool (!s b)) ∧ w' = w := by
  obtain ⟨a0, a1, aT⟩ := hA
  have ca := World.rowIs.cell aT hb
  go_enter Try.func59, Try.ntmps59
  go_wp2_with fail
  go_ret
  exact ⟨rfl, rfl⟩
theorem clo21 (hA : SeenAt w A ia ta n s) (hB : SeenAt w B ib tb n t) (hb : b < n) : Calls Try.prog 60 #[.int .i64 (b : Int), .pointer (some ⟨A, 0, none⟩), .pointer (some ⟨B, 0, none⟩)] w fun e w' => e = .returned (.bool (s b && t b)) ∧ w' = w := by
  obtain ⟨a0, a1, aT⟩ := hA
  obtain ⟨b0, b1, bT⟩ := hB
  have ca := World.rowIs.cell aT hb
  have cb := World.rowIs.cell bT hb
  cases hs : s b
  · rw [hs] at ca
    go_enter Try.func60, Try.ntmps60
    go_wp2_with fail
    go_ret
    exact ⟨rfl, rfl⟩
  · rw [hs] at ca
    go_enter Try.func60, Try.ntmps60
    go_wp2_with fail
    go_ret
    exact ⟨by simp, rfl⟩
theorem clo22 (hA : SeenAt w A ia ta n s) (hB : SeenAt w B ib tb n t) (hb : b < n) : Calls Try.prog 61 #[.int .i64 (b : Int), .pointer (some ⟨A, 0, none⟩), .pointer (some ⟨B, 0, none⟩)] w fun e w' => e = .returned (.bool (s b || t b)) ∧ w' = w := by
  obtain ⟨a0, a1, aT⟩ := hA
  obtain ⟨b0, b1, bT⟩ := hB
  have ca := World.rowIs.cell aT hb
  have cb := World.rowIs.cell bT hb
  cases hs : s b
  · rw [hs] at ca
    go_enter Try.func61, Try.ntmps61
    go_wp2_with fail
    go_ret
    exact ⟨by simp, rfl⟩
  · rw [hs] at ca
    go_enter Try.func61, Try.ntmps61
    go_wp2_with fail
    go_ret
    exact ⟨rfl, rfl⟩
theorem clo23 (hA : SeenAt w A ia ta n s) (hB : SeenAt w B ib tb n t) (hD : SeenAt w D id td n u) (hb : b < n) :
    Calls Try.prog 62 #[.int .i64 (b : Int), .pointer (some ⟨A, 0, none⟩), .pointer (some ⟨B, 0, none⟩), .pointer (some ⟨D, 0, none⟩)] w fun e w' => e = .returned (.bool (if s b then t b else u b)) ∧ w' = w := by
  obtain ⟨a0, a1, aT⟩ := hA
  obtain ⟨b0, b1, bT⟩ := hB
  obtain ⟨d0, d1, dT⟩ := hD
  have ca := World.rowIs.cell aT hb
  have cb := World.rowIs.cell bT hb
  have cd := World.rowIs.cell dT hb
  cases hs : s b
  · rw [hs] at ca
    go_enter Try.func62, Try.ntmps62
    go_wp2_with fail
    go_ret
    exact ⟨by simp, rfl⟩
  · rw [hs] at ca
    cases ht : t b
    · rw [ht] at cb
      go_enter Try.func62, Try.ntmps62
      go_wp2_with fail
      go_ret
      exact ⟨by simp, rfl⟩
    · rw [ht] at cb
      go_enter Try.func62, Try.ntmps62
      go_wp2_with fail
      go_ret
      exact ⟨by simp, rfl⟩
end

theorem bit18 {w : World} {vb vars i : Nat} (h : w.cell? ⟨vb, 0, none⟩ = some (.int .i64 (vars : Int))) (hv : vars ≤ 16) (hi : i < vars) :
    Calls Try.prog 57 #[.int .i64 (i : Int), .pointer (some ⟨vb, 0, none⟩)] w fun e w' => ∃ q : Nat, e = .returned (.int .i64 (q : Int)) ∧ Hq (q = 2 ^ (vars - 1 - i)) ∧ w' = w := by
  have wr1 : IntKind.i64.wrap ((vars : Int) - 1) = (vars : Int) - 1 := IntWalk.i64_in _ (by omega)
  have wr2 : IntKind.i64.wrap ((vars : Int) - 1 - (i : Int)) = (vars : Int) - 1 - (i : Int) := IntWalk.i64_in _ (by omega)
  obtain ⟨_, _⟩ := pow_wrap (vars := vars - 1 - i) (pp := 2 ^ (vars - 1 - i)) (by omega) rfl
  go_enter Try.func57, Try.ntmps57
  go_wp2_with fail
  go_ret
  refine ⟨2 ^ (vars - 1 - i), ?_, ⟨rfl⟩, rfl⟩
  show Ending.returned (Value.int .i64 ((2 : Int) ^ (vars - 1 - i))) = _
  simp
theorem clo19 {w : World} {bb vb xb vars b i : Nat} (h : w.cell? ⟨vb, 0, none⟩ = some (.int .i64 (vars : Int))) (hf : w.cell? ⟨bb, 0, none⟩ = some (.func (.func 57) #[] #[.pointer (some ⟨vb, 0, none⟩)])) (hx : w.cell? ⟨xb, 1, none⟩ = some (.int .i64 (i : Int)))
    (hv : vars ≤ 16) (hi : i < vars) (hb : b < 65536) :
    Calls Try.prog 58 #[.int .i64 (b : Int), .pointer (some ⟨bb, 0, none⟩), .pointer (some ⟨xb, 0, none⟩)] w fun e w' => e = .returned (.bool (envOf vars b i)) ∧ w' = w := by
  have hq63 : ∀ q : Nat, q = 2 ^ (vars - 1 - i) → (Go.bits .and .i64 (b : Int) (q : Int) != 0) = envOf vars b i := fun q hq => by
    have h16 : 2 ^ (vars - 1 - i) ≤ 2 ^ 16 := Nat.pow_le_pow_right (by omega) (by omega)
    rw [intBits_and b q (by omega) (by omega), ← test_bit vars i b, hq]
    generalize b &&& 2 ^ (vars - 1 - i) = z
    cases z <;> simp <;> omega
  have hq63' := Hq.mk hq63
  clear hq63
  go_enter Try.func58, Try.ntmps58
  go_wp2_with (go_at_call 57; refine (bit18 h hv hi).mono ?_; rintro e w2 ⟨q, rfl, hq, rfl⟩; have hbt := hq63'.out q hq.out)
  go_ret
  exact ⟨rfl, rfl⟩

set_option maxHeartbeats 2000000 in
set_option maxRecDepth 100000 in
/-- slices.Equal of two tables. -/
theorem equal_ok {w : World} {ta tb n : Nat} {s t : Nat → Bool} (hs : Tab w ta n s) (ht : Tab w tb n t) (hn : n ≤ 256) :
    Calls Try.prog 19 #[.slice (some ⟨ta, 0, none⟩) n n, .slice (some ⟨tb, 0, none⟩) n n] w fun e w' => ∃ r : Bool, e = .returned (.bool r) ∧ (r = true ↔ ∀ k, k < n → s k = t k) ∧ Below w.heap.size w w' := by
  go_enter Try.func19, Try.ntmps19
  go_wp2_with fail
  go_loopw [13] (fun i wr => ∃ k : Nat, k ≤ n ∧ i = .int .i64 (k : Int) ∧ (∀ j, j < k → s j = t j) ∧ Below w.heap.size w wr) (fun i _ => n - (intOf i).toNat)
  case atStart => exact ⟨0, by omega, rfl, fun j hj => by omega, Below.refl _ _⟩
  case round =>
    obtain ⟨k, hk, rfl, hI, hB⟩ := hrel
    have hI' := Hq.mk hI
    clear hI
    by_cases hlt : k < n
    · have hs' : Tab wr ta n s := World.rowIs.of_block hs (hB.block _ (World.rowIs.lt hs))
      have ht' : Tab wr tb n t := World.rowIs.of_block ht (hB.block _ (World.rowIs.lt ht))
      have c1 := World.rowIs.cell hs' hlt
      have c2 := World.rowIs.cell ht' hlt
      have hB2 := hB.drew
      by_cases he : s k = t k
      · rw [he] at c1
        go_wp2_with fail
        go_region
        all_goals
          go_wp2_with fail
          go_roundw
          case rel => exact ⟨k + 1, by omega, by go_num, fun j hj => by
            by_cases h1 : j = k
            · subst h1; exact he
            · exact hI'.out j (by omega), hB2⟩
          case measure => simp [intOf]; omega
      · have he' : (s k == t k) = false := by simpa using he
        go_wp2_with fail
        go_region
        all_goals
          go_wp2_with fail
          go_ret
          exact ⟨false, rfl, ⟨fun h => (by cases h), fun h => (he (h k hlt)).elim⟩, hB2⟩
    · go_wp2_with fail
      go_ret
      exact ⟨true, rfl, ⟨fun _ j hj => hI'.out j (by omega), fun _ => rfl⟩, hB⟩
end Go.Proofs.Ytgcimcpcnoojnaa


