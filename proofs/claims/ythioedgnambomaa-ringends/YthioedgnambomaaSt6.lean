/-
  Package step: ownPort, inPool.
-/
import Derived.Test.YthioedgnambomaaSs
namespace Go.Proofs.Ythioedgnambomaa
open Go.RowKit Go.Maps

theorem ownFrom_at (M : Mnd) (i : Int) (s : Int × Int) {k : Nat} (h : k < 8) : ownFrom M i s k = if M.ow (i, (k : Int)) = some s then some k else ownFrom M i s (k + 1) := by rw [ownFrom, dif_pos h]
theorem ownFrom_end (M : Mnd) (i : Int) (s : Int × Int) {k : Nat} (h : 8 ≤ k) : ownFrom M i s k = none := by rw [ownFrom, dif_neg (by omega)]
theorem end_eq (a b c d : Int) (w : World) : (binOp .eql 112 (.agg #[.int .i64 a, .int .i64 b]) (.agg #[.int .i64 c, .int .i64 d])).run Try.prog w = .ok (.bool ((a == c) && (b == d))) w := by
  cases h1 : (a == c) <;> cases h2 : (b == d)
  all_goals simp [go_sem, Try.underlying112, Try.underlying3, h1, h2]
theorem i64ok_nat {k : Nat} (h : k < 8) : i64ok (k : Int) := i64ok_of (by omega) (by omega)
set_option maxHeartbeats 4000000 in
set_option maxRecDepth 100000 in
theorem ownPort_any (m : Mp) (ds : List Dv) (ls : List Lk) (n : Nat) (M : Mnd) (i : Int) (sa sb : Int) (w : World) (hM : Hid (MemAt w m ds ls n M)) (hi : Hid (i64ok i)) :
    Calls Try.prog 60 #[.pointer (some ⟨m.B, m.z, none⟩), .int .i64 i, .agg #[.int .i64 sa, .int .i64 sb]] w fun e w' => e = .returned (.tuple #[.int .i64 (((ownFrom M i (sa, sb) 0).getD 0 : Nat) : Int), .bool (ownFrom M i (sa, sb) 0).isSome]) ∧ Below w.heap.size w w' := by
  have M0 := hM.out.alloc (.cells #[.int .i64 sa, .int .i64 sb] 112)
  have D0 := Below.alN (Below.refl w.heap.size w) (.cells #[.int .i64 sa, .int .i64 sb] 112)
  have S0 := bk_new w #[.int .i64 sa, .int .i64 sb] 112
  clear hM
  generalize hres : ownFrom M i (sa, sb) 0 = res
  have HR : Hid (ownFrom M i (sa, sb) 0 = res) := hres
  clear hres
  go_enter Try.func60, Try.ntmps60
  go_wp2_with fail
  go_loopw [11] (fun c wr => ∃ k : Nat, c = .int .i64 (k : Int) ∧ k ≤ 8 ∧ Below w.heap.size w wr ∧ MemAt wr m ds ls n M ∧ Bk wr w.heap.size #[.int .i64 sa, .int .i64 sb] 112 ∧ Hid (res = ownFrom M i (sa, sb) k)) (fun c _ => 8 - (intOf c).toNat)
  case atStart => exact ⟨0, rfl, by omega, D0, M0, S0, HR.out.symm⟩
  case round =>
    clear D0 M0 S0 HR
    obtain ⟨k, rfl, hk, D1, M1, S1, hl⟩ := hrel
    by_cases hlt : k < 8
    · have HF : Hid (ownFrom M i (sa, sb) k = if M.ow (i, (k : Int)) = some (sa, sb) then some k else ownFrom M i (sa, sb) (k + 1)) := ownFrom_at M i (sa, sb) hlt
      have lk := M1.lookO hi.out (i64ok_nat hlt)
      obtain ⟨_, _, _, q0, _⟩ := M1.cells
      obtain ⟨s0, s1⟩ := S1.two
      have k8 : decide ((k : Int) < 8) = true := by simp; omega
      have zs := S1.lt
      cases y : M.ow (i, (k : Int)) with
      | none =>
        have HV : Hid (res = ownFrom M i (sa, sb) (k + 1)) := by
          show _ = _
          rw [hl.out, HF.out, y, if_neg (by simp)]
        rw [y] at lk
        simp only [Option.getD_none, Option.isSome_none] at lk
        have D2 := Below.alN D1 (.cells #[.int .i64 0, .int .i64 0] 112)
        have M2 := M1.alloc (.cells #[.int .i64 0, .int .i64 0] 112)
        have S2 := S1.alloc (.cells #[.int .i64 0, .int .i64 0] 112)
        clear y HF hl D1 M1 S1
        go_wp2_with fail
        go_roundw
        case rel => exact ⟨k + 1, by go_num, by omega, D2, M2, S2, HV⟩
        case measure => simp [intOf]; omega
      | some z =>
        obtain ⟨a, b⟩ := z
        rw [y] at lk
        simp only [Option.getD_some, Option.isSome_some] at lk
        have D2 := Below.alN D1 (.cells #[.int .i64 a, .int .i64 b] 112)
        have M2 := M1.alloc (.cells #[.int .i64 a, .int .i64 b] 112)
        have S2 := S1.alloc (.cells #[.int .i64 a, .int .i64 b] 112)
        have EQ := fun w => end_eq a b sa sb w
        cases he : ((a == sa) && (b == sb))
        · have HV : Hid (res = ownFrom M i (sa, sb) (k + 1)) := by
            show _ = _
            rw [hl.out, HF.out, y, if_neg (fun e => by cases e; simp at he)]
          simp only [he] at EQ
          clear y HF hl D1 M1 S1 he
          go_wp2_with fail
          go_roundw
          case rel => exact ⟨k + 1, by go_num, by omega, D2, M2, S2, HV⟩
          case measure => simp [intOf]; omega
        · have HV : Hid (res = some k) := by
            show _ = _
            simp only [Bool.and_eq_true, beq_iff_eq] at he
            rw [hl.out, HF.out, y, if_pos (by rw [he.1, he.2])]
          simp only [he] at EQ
          clear y HF hl D1 M1 S1 he
          go_wp2_with fail
          go_ret2
          exact ⟨by rw [HV.out]; rfl, D2⟩
    · have HV : Hid (res = none) := by
        show _ = _
        rw [hl.out, ownFrom_end _ _ _ (by omega)]
      have k8 : decide ((k : Int) < 8) = false := by simp; omega
      go_wp2_with fail
      go_ret2
      exact ⟨by rw [HV.out]; rfl, D1⟩
theorem bits_u8 (a : Nat) (ha : a < 256) : Go.bits .and .u8 (a : Int) 1 = ((a % 2 : Nat) : Int) := by
  have h : ∀ x : Fin 256, Go.bits .and .u8 ((x.val : Nat) : Int) 1 = ((x.val % 2 : Nat) : Int) := by decide +kernel
  exact h ⟨a, ha⟩
theorem pool_bit (pl : Nat) (hp : pl < 256) (k : Nat) : (Go.bits .and .u8 (((pl / 2 ^ k : Nat) : Int)) 1 == 1) = pl.testBit k := by
  have h1 : pl / 2 ^ k < 256 := Nat.lt_of_le_of_lt (Nat.div_le_self _ _) hp
  rw [bits_u8 _ h1, Nat.testBit_eq_decide_div_mod_eq, Bool.eq_iff_iff]
  simp only [beq_iff_eq, decide_eq_true_eq]
  generalize pl / 2 ^ k = q
  omega
set_option maxHeartbeats 1000000 in
theorem inPool_0 (nm : ByteArray) (kd ad : Int) (pl : Nat) (vb vr vt : Value) (w : World) (hp : pl < 256) : Calls Try.prog 61 #[.agg #[.string nm, .int .i64 kd, .int .i64 ad, .int .u8 (pl : Int), vb, vr, vt], .int .i64 0] w fun e w' => e = .returned (.bool (pl.testBit 0)) ∧ Below w.heap.size w w' := by
  have D0 := Below.alN (Below.refl w.heap.size w) (dvC nm kd ad pl vb vr vt)
  have hb := pool_bit pl hp 0
  go_enter Try.func61, Try.ntmps61
  go_wp2_with fail
  go_ret
  exact ⟨by rw [← hb]; first | rfl | simp, D0⟩
set_option maxHeartbeats 1000000 in
theorem inPool_1 (nm : ByteArray) (kd ad : Int) (pl : Nat) (vb vr vt : Value) (w : World) (hp : pl < 256) : Calls Try.prog 61 #[.agg #[.string nm, .int .i64 kd, .int .i64 ad, .int .u8 (pl : Int), vb, vr, vt], .int .i64 1] w fun e w' => e = .returned (.bool (pl.testBit 1)) ∧ Below w.heap.size w w' := by
  have D0 := Below.alN (Below.refl w.heap.size w) (dvC nm kd ad pl vb vr vt)
  have hb := pool_bit pl hp 1
  go_enter Try.func61, Try.ntmps61
  go_wp2_with fail
  go_ret
  exact ⟨by rw [← hb]; first | rfl | simp, D0⟩
set_option maxHeartbeats 1000000 in
theorem inPool_2 (nm : ByteArray) (kd ad : Int) (pl : Nat) (vb vr vt : Value) (w : World) (hp : pl < 256) : Calls Try.prog 61 #[.agg #[.string nm, .int .i64 kd, .int .i64 ad, .int .u8 (pl : Int), vb, vr, vt], .int .i64 2] w fun e w' => e = .returned (.bool (pl.testBit 2)) ∧ Below w.heap.size w w' := by
  have D0 := Below.alN (Below.refl w.heap.size w) (dvC nm kd ad pl vb vr vt)
  have hb := pool_bit pl hp 2
  go_enter Try.func61, Try.ntmps61
  go_wp2_with fail
  go_ret
  exact ⟨by rw [← hb]; first | rfl | simp, D0⟩
set_option maxHeartbeats 1000000 in
theorem inPool_3 (nm : ByteArray) (kd ad : Int) (pl : Nat) (vb vr vt : Value) (w : World) (hp : pl < 256) : Calls Try.prog 61 #[.agg #[.string nm, .int .i64 kd, .int .i64 ad, .int .u8 (pl : Int), vb, vr, vt], .int .i64 3] w fun e w' => e = .returned (.bool (pl.testBit 3)) ∧ Below w.heap.size w w' := by
  have D0 := Below.alN (Below.refl w.heap.size w) (dvC nm kd ad pl vb vr vt)
  have hb := pool_bit pl hp 3
  go_enter Try.func61, Try.ntmps61
  go_wp2_with fail
  go_ret
  exact ⟨by rw [← hb]; first | rfl | simp, D0⟩
set_option maxHeartbeats 1000000 in
theorem inPool_4 (nm : ByteArray) (kd ad : Int) (pl : Nat) (vb vr vt : Value) (w : World) (hp : pl < 256) : Calls Try.prog 61 #[.agg #[.string nm, .int .i64 kd, .int .i64 ad, .int .u8 (pl : Int), vb, vr, vt], .int .i64 4] w fun e w' => e = .returned (.bool (pl.testBit 4)) ∧ Below w.heap.size w w' := by
  have D0 := Below.alN (Below.refl w.heap.size w) (dvC nm kd ad pl vb vr vt)
  have hb := pool_bit pl hp 4
  go_enter Try.func61, Try.ntmps61
  go_wp2_with fail
  go_ret
  exact ⟨by rw [← hb]; first | rfl | simp, D0⟩
set_option maxHeartbeats 1000000 in
theorem inPool_5 (nm : ByteArray) (kd ad : Int) (pl : Nat) (vb vr vt : Value) (w : World) (hp : pl < 256) : Calls Try.prog 61 #[.agg #[.string nm, .int .i64 kd, .int .i64 ad, .int .u8 (pl : Int), vb, vr, vt], .int .i64 5] w fun e w' => e = .returned (.bool (pl.testBit 5)) ∧ Below w.heap.size w w' := by
  have D0 := Below.alN (Below.refl w.heap.size w) (dvC nm kd ad pl vb vr vt)
  have hb := pool_bit pl hp 5
  go_enter Try.func61, Try.ntmps61
  go_wp2_with fail
  go_ret
  exact ⟨by rw [← hb]; first | rfl | simp, D0⟩
set_option maxHeartbeats 1000000 in
theorem inPool_6 (nm : ByteArray) (kd ad : Int) (pl : Nat) (vb vr vt : Value) (w : World) (hp : pl < 256) : Calls Try.prog 61 #[.agg #[.string nm, .int .i64 kd, .int .i64 ad, .int .u8 (pl : Int), vb, vr, vt], .int .i64 6] w fun e w' => e = .returned (.bool (pl.testBit 6)) ∧ Below w.heap.size w w' := by
  have D0 := Below.alN (Below.refl w.heap.size w) (dvC nm kd ad pl vb vr vt)
  have hb := pool_bit pl hp 6
  go_enter Try.func61, Try.ntmps61
  go_wp2_with fail
  go_ret
  exact ⟨by rw [← hb]; first | rfl | simp, D0⟩
set_option maxHeartbeats 1000000 in
theorem inPool_7 (nm : ByteArray) (kd ad : Int) (pl : Nat) (vb vr vt : Value) (w : World) (hp : pl < 256) : Calls Try.prog 61 #[.agg #[.string nm, .int .i64 kd, .int .i64 ad, .int .u8 (pl : Int), vb, vr, vt], .int .i64 7] w fun e w' => e = .returned (.bool (pl.testBit 7)) ∧ Below w.heap.size w w' := by
  have D0 := Below.alN (Below.refl w.heap.size w) (dvC nm kd ad pl vb vr vt)
  have hb := pool_bit pl hp 7
  go_enter Try.func61, Try.ntmps61
  go_wp2_with fail
  go_ret
  exact ⟨by rw [← hb]; first | rfl | simp, D0⟩
set_option maxHeartbeats 1000000 in
theorem inPool_any (nm : ByteArray) (kd ad : Int) (pl : Nat) (vb vr vt : Value) (c : Int) (w : World) (hp : pl < 256) : Calls Try.prog 61 #[.agg #[.string nm, .int .i64 kd, .int .i64 ad, .int .u8 (pl : Int), vb, vr, vt], .int .i64 c] w fun e w' => e = .returned (.bool (poB c && pl.testBit c.toNat)) ∧ Below w.heap.size w w' := by
  have D0 := Below.alN (Below.refl w.heap.size w) (dvC nm kd ad pl vb vr vt)
  unfold poB
  cases h0 : decide (0 ≤ c)
  · go_enter Try.func61, Try.ntmps61
    go_wp2_with fail
    go_ret
    exact ⟨by simp, D0⟩
  cases h1 : decide (c < 8)
  · go_enter Try.func61, Try.ntmps61
    go_wp2_with fail
    go_ret
    exact ⟨by simp, D0⟩
  have hc : c = 0 ∨ c = 1 ∨ c = 2 ∨ c = 3 ∨ c = 4 ∨ c = 5 ∨ c = 6 ∨ c = 7 := by
    simp at h0 h1
    omega
  simp only [Bool.true_and]
  rcases hc with rfl | rfl | rfl | rfl | rfl | rfl | rfl | rfl
  · exact inPool_0 nm kd ad pl vb vr vt w hp
  · exact inPool_1 nm kd ad pl vb vr vt w hp
  · exact inPool_2 nm kd ad pl vb vr vt w hp
  · exact inPool_3 nm kd ad pl vb vr vt w hp
  · exact inPool_4 nm kd ad pl vb vr vt w hp
  · exact inPool_5 nm kd ad pl vb vr vt w hp
  · exact inPool_6 nm kd ad pl vb vr vt w hp
  · exact inPool_7 nm kd ad pl vb vr vt w hp
end Go.Proofs.Ythioedgnambomaa
