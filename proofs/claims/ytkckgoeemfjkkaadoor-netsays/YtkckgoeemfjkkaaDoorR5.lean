/-
  The document's answer: rows.
-/
import Derived.Test.YtkckgoeemfjkkaaDoorR4
import Derived.Test.YtkckgoeemfjkkaaDoorR2
namespace Go.Proofs.YtkckgoeemfjkkaaDoor
open Go.RowKit

theorem row_two' (a b : Nat) (h1 : a < 16) (h2 : b < 16) (hne : a ≠ b) : (⟨(Lib.decDigits a).toArray⟩ : ByteArray) ++ ((⟨#[45]⟩ : ByteArray) ++ ⟨(Lib.decDigits b).toArray⟩) = ⟨(Mt.rowT (a, b)).toArray⟩ := by
  rw [Pk.decDigits_dec a (by omega), Pk.decDigits_dec b (by omega), Mt.rowT, if_neg hne]
  apply ByteArray.ext
  rw [ByteArray.data_append, ByteArray.data_append]
  simp
theorem rows_next (b k m : Nat) (hb : b < 2 ^ 16) (h : Mt.IsRun b k m) (h0 : k = 0 ∨ b.testBit (k - 1) = false) : Mt.rowsTo b (k + 1) = Mt.rowsTo b k ++ [(k, m)] := by
  rw [Mt.rowsTo, Mt.rowAt, if_pos ⟨h.2.1 k (Nat.le_refl _) h.1, h0⟩, Mt.run_eq b k m hb h]
theorem all_bits (b size : Nat) (hb : b < 2 ^ size) : (∀ i, i < size → b.testBit i = true) ↔ b = 2 ^ size - 1 := by
  constructor
  · intro h
    apply Nat.eq_of_testBit_eq
    intro i
    rw [Nat.testBit_two_pow_sub_one]
    rcases Nat.lt_or_ge i size with hi | hi
    · rw [h i hi]; simp [hi]
    · rw [Nat.testBit_lt_two_pow (Nat.lt_of_lt_of_le hb (Nat.pow_le_pow_right (by omega) hi))]; simp; omega
  · intro h i hi
    rw [h, Nat.testBit_two_pow_sub_one]
    simp [hi]
theorem rows_nil (b size : Nat) (hb : b < 2 ^ size) (hs : size ≤ 16) : Mt.rowsTo b size = [] ↔ b = 0 := by
  constructor
  · intro h
    apply Nat.eq_of_testBit_eq
    intro i
    rw [Nat.zero_testBit]
    cases ht : b.testBit i with
    | false => rfl
    | true =>
      have hi : i < size := by
        rcases Nat.lt_or_ge i size with k | k
        · exact k
        · rw [Nat.testBit_lt_two_pow (Nat.lt_of_lt_of_le hb (Nat.pow_le_pow_right (by omega) k))] at ht
          cases ht
      obtain ⟨p, hp, _⟩ := Mt.rows_has b size size i hb hs hi ht
      rw [h] at hp; cases hp
  · intro h
    subst h
    have : ∀ n, Mt.rowsTo 0 n = [] := by
      intro n
      induction n with
      | zero => rfl
      | succ n ih => rw [Mt.rows_skip 0 n (Or.inl (Nat.zero_testBit n)), ih]
    exact this size

set_option maxHeartbeats 2500000 in
set_option maxRecDepth 100000 in
theorem rows_any (b size : Nat) (w : World) (hsz : size = 16 ∨ size = 8) (hb : b < 2 ^ size) :
    Calls Tryd.prog 31 #[.int .i64 (b : Int), .int .i64 (size : Int)] w fun e w' => e = .returned (.string ⟨(Mt.setT size b).toArray⟩) ∧ Below w.heap.size w w' := by
  have hs16 : size ≤ 16 := by omega
  have hb16 : b < 2 ^ 16 := Nat.lt_of_lt_of_le hb (Nat.pow_le_pow_right (by omega) hs16)
  have HH : Hid (∀ (k : Nat) w, Calls Tryd.prog 16 #[.int .i64 (b : Int), .int .i64 (k : Int)] w fun e w' => e = .returned (.bool (b.testBit k)) ∧ w' = w) := fun k w => by
    have := rhas_any b (k : Int) w (by omega)
    rw [hasB_nat] at this
    exact this
  have HB : Hid (b < 2 ^ size) := hb
  have HB16 : Hid (b < 2 ^ 16) := hb16
  clear hb hb16
  obtain ⟨i0, hi, hz0, hz1, hz2⟩ := info_parts Tryd.info9
  go_enter Tryd.func31, Tryd.ntmps31
  go_wp2_with fail
  go_loopw [7, 5, 6] (fun n v al wr => ∃ (k : Nat) (B : Bool), n = .int .i64 (k : Int) ∧ al = .bool B ∧ k ≤ size ∧ (B = true ↔ ∀ i, i < k → b.testBit i = true) ∧ wr.ownsRow w.heap.size 9 1 v ((Mt.rowsTo b k).map Mt.rowT).length (strs ((Mt.rowsTo b k).map Mt.rowT)) ∧ Below w.heap.size w wr) (fun n _ _ _ => size - (intOf n).toNat)
  case atStart => exact ⟨0, true, rfl, rfl, Nat.zero_le _, by simp, World.ownsRow_nil _ _ _ _, Below.refl _ _⟩
  case round =>
    obtain ⟨k, B, rfl, rfl, hk, hB, ho, hbw⟩ := hrel
    have HBB : Hid (B = true ↔ ∀ i, i < k → b.testBit i = true) := hB
    clear hB
    by_cases hlt : k < size
    · cases ht : b.testBit k
      · have H1 : Hid (∀ w, Calls Tryd.prog 16 #[.int .i64 (b : Int), .int .i64 (k : Int)] w fun e w' => e = .returned (.bool false) ∧ w' = w) := fun w => by rw [← ht]; exact HH.out k w
        have R : Hid (Mt.rowsTo b (k + 1) = Mt.rowsTo b k) := Mt.rows_skip b k (Or.inl ht)
        have HT : Hid (b.testBit k = false) := ht
        clear ht
        go_wp2_with fail
        refine (H1.out _).mono ?_
        rintro e w2 ⟨rfl, rfl⟩
        go_wp2_with fail
        go_roundw
        case rel => exact ⟨k + 1, false, congrArg (Value.int .i64) (by omega), rfl, by omega, ⟨(fun h => by cases h), (fun h => by have := h k (by omega); rw [HT.out] at this; cases this)⟩, by rw [R.out]; exact ho, hbw⟩
        case measure => simp [intOf]; omega
      · have H1 : Hid (∀ w, Calls Tryd.prog 16 #[.int .i64 (b : Int), .int .i64 (k : Int)] w fun e w' => e = .returned (.bool true) ∧ w' = w) := fun w => by rw [← ht]; exact HH.out k w
        have HT : Hid (b.testBit k = true) := ht
        have HB2 : Hid (B = true ↔ ∀ i, i < k + 1 → b.testBit i = true) := by
          show _ ↔ _
          rw [HBB.out]
          constructor
          · intro h i hi
            by_cases e : i = k
            · rw [e]; exact ht
            · exact h i (by omega)
          · intro h i hi
            exact h i (by omega)
        clear ht HBB
        by_cases hprev : 0 < k ∧ b.testBit (k - 1) = true
        · have R : Hid (Mt.rowsTo b (k + 1) = Mt.rowsTo b k) := Mt.rows_skip b k (Or.inr hprev)
          have H2 : Hid (∀ w, Calls Tryd.prog 16 #[.int .i64 (b : Int), .int .i64 ((k : Int) - 1)] w fun e w' => e = .returned (.bool true) ∧ w' = w) := fun w => by
            have := HH.out (k - 1) w
            rw [hprev.2, show ((k - 1 : Nat) : Int) = (k : Int) - 1 by omega] at this
            exact this
          have hk0 : 0 < k := hprev.1
          have t0 : decide ((0 : Int) < (k : Int)) = true := by simp; omega
          clear hprev
          go_wp2_with fail
          refine (H1.out _).mono ?_
          rintro e w2 ⟨rfl, rfl⟩
          go_wp2_with fail
          refine (H2.out _).mono ?_
          rintro e w2 ⟨rfl, rfl⟩
          go_wp2_with fail
          go_roundw
          case rel => exact ⟨k + 1, B, congrArg (Value.int .i64) (by omega), rfl, by omega, HB2.out, by rw [R.out]; exact ho, hbw⟩
          case measure => simp [intOf]; omega
        · have HP : Hid (k = 0 ∨ b.testBit (k - 1) = false) := by
            show _ ∨ _
            by_cases h0 : k = 0
            · exact Or.inl h0
            · refine Or.inr ?_
              cases h1 : b.testBit (k - 1) with
              | false => rfl
              | true => exact absurd ⟨by omega, h1⟩ hprev
          have HPS : Hid (k = 0 ∨ (0 < k ∧ ∀ w, Calls Tryd.prog 16 #[.int .i64 (b : Int), .int .i64 ((k : Int) - 1)] w fun e w' => e = .returned (.bool false) ∧ w' = w)) := by
            rcases HP.out with h | h
            · exact Or.inl h
            · by_cases h0 : k = 0
              · exact Or.inl h0
              · refine Or.inr ⟨by omega, fun w => ?_⟩
                have := HH.out (k - 1) w
                rw [h, show ((k - 1 : Nat) : Int) = (k : Int) - 1 by omega] at this
                exact this
          clear hprev
          rcases HPS.out with h0 | ⟨h0, H2⟩
          · have t0 : decide ((0 : Int) < (k : Int)) = false := by simp; omega
            have t0n : decide (0 < k) = false := by simp; omega
            have t0p : ¬ (0 < k) := by omega
            clear h0 HPS
            go_wp2_with fail
            refine (H1.out _).mono ?_
            rintro e w2 ⟨rfl, rfl⟩
            go_wp2_with fail
            go_loopw [8] (fun n wq => ∃ m : Nat, n = .int .i64 (m : Int) ∧ k ≤ m ∧ m < size ∧ (∀ i, k ≤ i → i ≤ m → b.testBit i = true) ∧ wq = w2) (fun n _ => size - (intOf n).toNat)
            case atStart => exact ⟨k, rfl, Nat.le_refl _, hlt, (fun i h1 h2 => by rw [show i = k by omega]; exact HT.out), (by first | rfl | trivial)⟩
            case round =>
              obtain ⟨m, rfl, hkm, hm, hall, rfl⟩ := hrel
              have HA : Hid (∀ i, k ≤ i → i ≤ m → b.testBit i = true) := hall
              clear hall
              by_cases hgo : m + 1 < size ∧ b.testBit (m + 1) = true
              · have H3 : Hid (∀ w, Calls Tryd.prog 16 #[.int .i64 (b : Int), .int .i64 ((m : Int) + 1)] w fun e w' => e = .returned (.bool true) ∧ w' = w) := fun w => by
                  have := HH.out (m + 1) w
                  rw [hgo.2, show ((m + 1 : Nat) : Int) = (m : Int) + 1 by omega] at this
                  exact this
                have HN : Hid (b.testBit (m + 1) = true) := hgo.2
                have hm1 := hgo.1
                have t1 : decide ((m : Int) + 1 < (size : Int)) = true := by simp; omega
                clear hgo
                go_wp2_with fail
                refine (H3.out _).mono ?_
                rintro e w4 ⟨rfl, rfl⟩
                go_wp2_with fail
                go_roundw
                case rel => exact ⟨m + 1, congrArg (Value.int .i64) (by omega), by omega, hm1, (fun i h1 h2 => by
                  by_cases e : i = m + 1
                  · rw [e]; exact HN.out
                  · exact HA.out i h1 (by omega)), (by first | rfl | trivial)⟩
                case measure => simp [intOf]; omega
              · have hend : b.testBit (m + 1) = false := by
                  cases h1 : b.testBit (m + 1) with
                  | false => rfl
                  | true =>
                    rcases Nat.lt_or_ge (m + 1) size with h | h
                    · exact absurd ⟨h, h1⟩ hgo
                    · rw [Nat.testBit_lt_two_pow (Nat.lt_of_lt_of_le HB.out (Nat.pow_le_pow_right (by omega) h))] at h1
                      cases h1
                have R : Hid (Mt.rowsTo b (k + 1) = Mt.rowsTo b k ++ [(k, m)]) := rows_next b k m HB16.out ⟨hkm, HA.out, hend⟩ HP.out
                have H3 : Hid (∀ w, Calls Tryd.prog 16 #[.int .i64 (b : Int), .int .i64 ((m : Int) + 1)] w fun e w' => e = .returned (.bool false) ∧ w' = w) := fun w => by
                  have := HH.out (m + 1) w
                  rw [hend, show ((m + 1 : Nat) : Int) = (m : Int) + 1 by omega] at this
                  exact this
                clear hgo hend
                have hlen : ((Mt.rowsTo b k).map Mt.rowT).length ≤ 16 := by
                  rw [List.length_map]
                  have := Mt.rows_len b k
                  omega
                have IK : Hid (∀ w, Calls Tryd.prog 15 #[.int .i64 (k : Int)] w fun e w' => e = .returned (.string ⟨(Lib.decDigits k).toArray⟩) ∧ w' = w) := fun w => Tryd.strconv_Itoa_small k (by omega) w
                have IM : Hid (∀ w, Calls Tryd.prog 15 #[.int .i64 (m : Int)] w fun e w' => e = .returned (.string ⟨(Lib.decDigits m).toArray⟩) ∧ w' = w) := fun w => Tryd.strconv_Itoa_small m (by omega) w
                have lk : (Lib.decDigits k).length ≤ 2 := by rw [Pk.decDigits_dec k (by omega)]; exact Pk.dec_len k
                have lm : (Lib.decDigits m).length ≤ 2 := by rw [Pk.decDigits_dec m (by omega)]; exact Pk.dec_len m
                by_cases hin : m + 1 < size
                · have t1 : decide ((m : Int) + 1 < (size : Int)) = true := by simp; omega
                  by_cases hkm2 : k = m
                  · subst hkm2
                    have TEQ : Hid ((⟨(Lib.decDigits k).toArray⟩ : ByteArray) = ⟨(Mt.rowT (k, k)).toArray⟩) := row_one k (by omega)
                    go_wp2_with fail
                    refine (H3.out _).mono ?_
                    rintro e w4 ⟨rfl, rfl⟩
                    go_wp2_with fail
                    refine (IK.out _).mono ?_
                    rintro e w5 ⟨rfl, rfl⟩
                    go_wp2_with (at_builtin; refine wpList_append_own _ rfl _ _ 50 rfl w.heap.size 9 i0 (.string ⟨#[]⟩) 1 16 Tryd.underlying50 hi hz0 hz1 hz2 rfl (by decide) _ _ _ rfl (ho.alloc _) ⟨w5.heap.size, 0, none⟩ 1 1 [.string ⟨(Lib.decDigits k).toArray⟩] rfl rfl ?c1 ?c2 ?c3 ?c4 ?c5 ?_)
                    case c1 =>
                      intro j u hj
                      match j, hj with
                      | 0, hj => simp at hj; subst hj; simp [Addr.add]
                    case c2 => intro u hu; simp at hu; subst hu; rfl
                    case c3 => unfold maxLen; omega
                    case c4 => omega
                    case c5 => have := hbw.size; simp; omega
                    intro v' w6 hown' hgrow _
                    have R1 := own_eq (ps := (Mt.rowsTo b (k + 1)).map Mt.rowT) hown' (by rw [R.out]; simp) (by rw [R.out, TEQ.out]; simp [strs])
                    have R2 := (hbw.alloc hbw.size (.cells #[.string ⟨(Lib.decDigits k).toArray⟩] 9)).grown hgrow (by have := hbw.size; simp; omega) (fun k hk => (ho.lt k hk).1)
                    clear hown' hgrow
                    go_wp2_with fail
                    go_roundw
                    case rel => exact ⟨k + 1, B, congrArg (Value.int .i64) (by omega), rfl, by omega, HB2.out, R1, R2⟩
                    case measure => simp [intOf]; omega
                  · have TEQ : Hid ((⟨(Lib.decDigits k).toArray⟩ : ByteArray) ++ ((⟨#[45]⟩ : ByteArray) ++ ⟨(Lib.decDigits m).toArray⟩) = ⟨(Mt.rowT (k, m)).toArray⟩) := row_two' k m (by omega) (by omega) hkm2
                    have t2 : decide ((k : Int) < (m : Int)) = true := by simp; omega
                    go_wp2_with fail
                    refine (H3.out _).mono ?_
                    rintro e w4 ⟨rfl, rfl⟩
                    go_wp2_with fail
                    refine (IK.out _).mono ?_
                    rintro e w5 ⟨rfl, rfl⟩
                    go_wp2_with fail
                    refine (IM.out _).mono ?_
                    rintro e w7 ⟨rfl, rfl⟩
                    go_wp2_with (at_builtin; refine wpList_append_own _ rfl _ _ 50 rfl w.heap.size 9 i0 (.string ⟨#[]⟩) 1 16 Tryd.underlying50 hi hz0 hz1 hz2 rfl (by decide) _ _ _ rfl (ho.alloc _) ⟨w7.heap.size, 0, none⟩ 1 1 [.string (⟨(Lib.decDigits k).toArray⟩ ++ (⟨#[45]⟩ ++ ⟨(Lib.decDigits m).toArray⟩))] rfl rfl ?c1 ?c2 ?c3 ?c4 ?c5 ?_)
                    case c1 =>
                      intro j u hj
                      match j, hj with
                      | 0, hj => simp at hj; subst hj; simp [Addr.add]
                    case c2 => intro u hu; simp at hu; subst hu; rfl
                    case c3 => unfold maxLen; omega
                    case c4 => omega
                    case c5 => have := hbw.size; simp; omega
                    intro v' w6 hown' hgrow _
                    have R1 := own_eq (ps := (Mt.rowsTo b (k + 1)).map Mt.rowT) hown' (by rw [R.out]; simp) (by rw [R.out, TEQ.out]; simp [strs])
                    have R2 := (hbw.alloc hbw.size (.cells #[.string (⟨(Lib.decDigits k).toArray⟩ ++ (⟨#[45]⟩ ++ ⟨(Lib.decDigits m).toArray⟩))] 9)).grown hgrow (by have := hbw.size; simp; omega) (fun k hk => (ho.lt k hk).1)
                    clear hown' hgrow
                    go_wp2_with fail
                    go_roundw
                    case rel => exact ⟨k + 1, B, congrArg (Value.int .i64) (by omega), rfl, by omega, HB2.out, R1, R2⟩
                    case measure => simp [intOf]; omega
                · have t1 : decide ((m : Int) + 1 < (size : Int)) = false := by simp; omega
                  by_cases hkm2 : k = m
                  · subst hkm2
                    exact absurd hin (by omega)
                  · have TEQ : Hid ((⟨(Lib.decDigits k).toArray⟩ : ByteArray) ++ ((⟨#[45]⟩ : ByteArray) ++ ⟨(Lib.decDigits m).toArray⟩) = ⟨(Mt.rowT (k, m)).toArray⟩) := row_two' k m (by omega) (by omega) hkm2
                    have t2 : decide ((k : Int) < (m : Int)) = true := by simp; omega
                    go_wp2_with fail
                    refine (IK.out _).mono ?_
                    rintro e w5 ⟨rfl, rfl⟩
                    go_wp2_with fail
                    refine (IM.out _).mono ?_
                    rintro e w7 ⟨rfl, rfl⟩
                    go_wp2_with (at_builtin; refine wpList_append_own _ rfl _ _ 50 rfl w.heap.size 9 i0 (.string ⟨#[]⟩) 1 16 Tryd.underlying50 hi hz0 hz1 hz2 rfl (by decide) _ _ _ rfl (ho.alloc _) ⟨w7.heap.size, 0, none⟩ 1 1 [.string (⟨(Lib.decDigits k).toArray⟩ ++ (⟨#[45]⟩ ++ ⟨(Lib.decDigits m).toArray⟩))] rfl rfl ?c1 ?c2 ?c3 ?c4 ?c5 ?_)
                    case c1 =>
                      intro j u hj
                      match j, hj with
                      | 0, hj => simp at hj; subst hj; simp [Addr.add]
                    case c2 => intro u hu; simp at hu; subst hu; rfl
                    case c3 => unfold maxLen; omega
                    case c4 => omega
                    case c5 => have := hbw.size; simp; omega
                    intro v' w6 hown' hgrow _
                    have R1 := own_eq (ps := (Mt.rowsTo b (k + 1)).map Mt.rowT) hown' (by rw [R.out]; simp) (by rw [R.out, TEQ.out]; simp [strs])
                    have R2 := (hbw.alloc hbw.size (.cells #[.string (⟨(Lib.decDigits k).toArray⟩ ++ (⟨#[45]⟩ ++ ⟨(Lib.decDigits m).toArray⟩))] 9)).grown hgrow (by have := hbw.size; simp; omega) (fun k hk => (ho.lt k hk).1)
                    clear hown' hgrow
                    go_wp2_with fail
                    go_roundw
                    case rel => exact ⟨k + 1, B, congrArg (Value.int .i64) (by omega), rfl, by omega, HB2.out, R1, R2⟩
                    case measure => simp [intOf]; omega
          · have H2' : Hid (∀ w, Calls Tryd.prog 16 #[.int .i64 (b : Int), .int .i64 ((k : Int) - 1)] w fun e w' => e = .returned (.bool false) ∧ w' = w) := H2
            clear H2 HPS
            have t0 : decide ((0 : Int) < (k : Int)) = true := by simp; omega
            go_wp2_with fail
            refine (H1.out _).mono ?_
            rintro e w2 ⟨rfl, rfl⟩
            go_wp2_with fail
            refine (H2'.out _).mono ?_
            rintro e w2 ⟨rfl, rfl⟩
            go_wp2_with fail
            go_loopw [8] (fun n wq => ∃ m : Nat, n = .int .i64 (m : Int) ∧ k ≤ m ∧ m < size ∧ (∀ i, k ≤ i → i ≤ m → b.testBit i = true) ∧ wq = w2) (fun n _ => size - (intOf n).toNat)
            case atStart => exact ⟨k, rfl, Nat.le_refl _, hlt, (fun i h1 h2 => by rw [show i = k by omega]; exact HT.out), (by first | rfl | trivial)⟩
            case round =>
              obtain ⟨m, rfl, hkm, hm, hall, rfl⟩ := hrel
              have HA : Hid (∀ i, k ≤ i → i ≤ m → b.testBit i = true) := hall
              clear hall
              by_cases hgo : m + 1 < size ∧ b.testBit (m + 1) = true
              · have H3 : Hid (∀ w, Calls Tryd.prog 16 #[.int .i64 (b : Int), .int .i64 ((m : Int) + 1)] w fun e w' => e = .returned (.bool true) ∧ w' = w) := fun w => by
                  have := HH.out (m + 1) w
                  rw [hgo.2, show ((m + 1 : Nat) : Int) = (m : Int) + 1 by omega] at this
                  exact this
                have HN : Hid (b.testBit (m + 1) = true) := hgo.2
                have hm1 := hgo.1
                have t1 : decide ((m : Int) + 1 < (size : Int)) = true := by simp; omega
                clear hgo
                go_wp2_with fail
                refine (H3.out _).mono ?_
                rintro e w4 ⟨rfl, rfl⟩
                go_wp2_with fail
                go_roundw
                case rel => exact ⟨m + 1, congrArg (Value.int .i64) (by omega), by omega, hm1, (fun i h1 h2 => by
                  by_cases e : i = m + 1
                  · rw [e]; exact HN.out
                  · exact HA.out i h1 (by omega)), (by first | rfl | trivial)⟩
                case measure => simp [intOf]; omega
              · have hend : b.testBit (m + 1) = false := by
                  cases h1 : b.testBit (m + 1) with
                  | false => rfl
                  | true =>
                    rcases Nat.lt_or_ge (m + 1) size with h | h
                    · exact absurd ⟨h, h1⟩ hgo
                    · rw [Nat.testBit_lt_two_pow (Nat.lt_of_lt_of_le HB.out (Nat.pow_le_pow_right (by omega) h))] at h1
                      cases h1
                have R : Hid (Mt.rowsTo b (k + 1) = Mt.rowsTo b k ++ [(k, m)]) := rows_next b k m HB16.out ⟨hkm, HA.out, hend⟩ HP.out
                have H3 : Hid (∀ w, Calls Tryd.prog 16 #[.int .i64 (b : Int), .int .i64 ((m : Int) + 1)] w fun e w' => e = .returned (.bool false) ∧ w' = w) := fun w => by
                  have := HH.out (m + 1) w
                  rw [hend, show ((m + 1 : Nat) : Int) = (m : Int) + 1 by omega] at this
                  exact this
                clear hgo hend
                have hlen : ((Mt.rowsTo b k).map Mt.rowT).length ≤ 16 := by
                  rw [List.length_map]
                  have := Mt.rows_len b k
                  omega
                have IK : Hid (∀ w, Calls Tryd.prog 15 #[.int .i64 (k : Int)] w fun e w' => e = .returned (.string ⟨(Lib.decDigits k).toArray⟩) ∧ w' = w) := fun w => Tryd.strconv_Itoa_small k (by omega) w
                have IM : Hid (∀ w, Calls Tryd.prog 15 #[.int .i64 (m : Int)] w fun e w' => e = .returned (.string ⟨(Lib.decDigits m).toArray⟩) ∧ w' = w) := fun w => Tryd.strconv_Itoa_small m (by omega) w
                have lk : (Lib.decDigits k).length ≤ 2 := by rw [Pk.decDigits_dec k (by omega)]; exact Pk.dec_len k
                have lm : (Lib.decDigits m).length ≤ 2 := by rw [Pk.decDigits_dec m (by omega)]; exact Pk.dec_len m
                by_cases hin : m + 1 < size
                · have t1 : decide ((m : Int) + 1 < (size : Int)) = true := by simp; omega
                  by_cases hkm2 : k = m
                  · subst hkm2
                    have TEQ : Hid ((⟨(Lib.decDigits k).toArray⟩ : ByteArray) = ⟨(Mt.rowT (k, k)).toArray⟩) := row_one k (by omega)
                    go_wp2_with fail
                    refine (H3.out _).mono ?_
                    rintro e w4 ⟨rfl, rfl⟩
                    go_wp2_with fail
                    refine (IK.out _).mono ?_
                    rintro e w5 ⟨rfl, rfl⟩
                    go_wp2_with (at_builtin; refine wpList_append_own _ rfl _ _ 50 rfl w.heap.size 9 i0 (.string ⟨#[]⟩) 1 16 Tryd.underlying50 hi hz0 hz1 hz2 rfl (by decide) _ _ _ rfl (ho.alloc _) ⟨w5.heap.size, 0, none⟩ 1 1 [.string ⟨(Lib.decDigits k).toArray⟩] rfl rfl ?c1 ?c2 ?c3 ?c4 ?c5 ?_)
                    case c1 =>
                      intro j u hj
                      match j, hj with
                      | 0, hj => simp at hj; subst hj; simp [Addr.add]
                    case c2 => intro u hu; simp at hu; subst hu; rfl
                    case c3 => unfold maxLen; omega
                    case c4 => omega
                    case c5 => have := hbw.size; simp; omega
                    intro v' w6 hown' hgrow _
                    have R1 := own_eq (ps := (Mt.rowsTo b (k + 1)).map Mt.rowT) hown' (by rw [R.out]; simp) (by rw [R.out, TEQ.out]; simp [strs])
                    have R2 := (hbw.alloc hbw.size (.cells #[.string ⟨(Lib.decDigits k).toArray⟩] 9)).grown hgrow (by have := hbw.size; simp; omega) (fun k hk => (ho.lt k hk).1)
                    clear hown' hgrow
                    go_wp2_with fail
                    go_roundw
                    case rel => exact ⟨k + 1, B, congrArg (Value.int .i64) (by omega), rfl, by omega, HB2.out, R1, R2⟩
                    case measure => simp [intOf]; omega
                  · have TEQ : Hid ((⟨(Lib.decDigits k).toArray⟩ : ByteArray) ++ ((⟨#[45]⟩ : ByteArray) ++ ⟨(Lib.decDigits m).toArray⟩) = ⟨(Mt.rowT (k, m)).toArray⟩) := row_two' k m (by omega) (by omega) hkm2
                    have t2 : decide ((k : Int) < (m : Int)) = true := by simp; omega
                    go_wp2_with fail
                    refine (H3.out _).mono ?_
                    rintro e w4 ⟨rfl, rfl⟩
                    go_wp2_with fail
                    refine (IK.out _).mono ?_
                    rintro e w5 ⟨rfl, rfl⟩
                    go_wp2_with fail
                    refine (IM.out _).mono ?_
                    rintro e w7 ⟨rfl, rfl⟩
                    go_wp2_with (at_builtin; refine wpList_append_own _ rfl _ _ 50 rfl w.heap.size 9 i0 (.string ⟨#[]⟩) 1 16 Tryd.underlying50 hi hz0 hz1 hz2 rfl (by decide) _ _ _ rfl (ho.alloc _) ⟨w7.heap.size, 0, none⟩ 1 1 [.string (⟨(Lib.decDigits k).toArray⟩ ++ (⟨#[45]⟩ ++ ⟨(Lib.decDigits m).toArray⟩))] rfl rfl ?c1 ?c2 ?c3 ?c4 ?c5 ?_)
                    case c1 =>
                      intro j u hj
                      match j, hj with
                      | 0, hj => simp at hj; subst hj; simp [Addr.add]
                    case c2 => intro u hu; simp at hu; subst hu; rfl
                    case c3 => unfold maxLen; omega
                    case c4 => omega
                    case c5 => have := hbw.size; simp; omega
                    intro v' w6 hown' hgrow _
                    have R1 := own_eq (ps := (Mt.rowsTo b (k + 1)).map Mt.rowT) hown' (by rw [R.out]; simp) (by rw [R.out, TEQ.out]; simp [strs])
                    have R2 := (hbw.alloc hbw.size (.cells #[.string (⟨(Lib.decDigits k).toArray⟩ ++ (⟨#[45]⟩ ++ ⟨(Lib.decDigits m).toArray⟩))] 9)).grown hgrow (by have := hbw.size; simp; omega) (fun k hk => (ho.lt k hk).1)
                    clear hown' hgrow
                    go_wp2_with fail
                    go_roundw
                    case rel => exact ⟨k + 1, B, congrArg (Value.int .i64) (by omega), rfl, by omega, HB2.out, R1, R2⟩
                    case measure => simp [intOf]; omega
                · have t1 : decide ((m : Int) + 1 < (size : Int)) = false := by simp; omega
                  by_cases hkm2 : k = m
                  · subst hkm2
                    have TEQ : Hid ((⟨(Lib.decDigits k).toArray⟩ : ByteArray) = ⟨(Mt.rowT (k, k)).toArray⟩) := row_one k (by omega)
                    go_wp2_with fail
                    refine (IK.out _).mono ?_
                    rintro e w5 ⟨rfl, rfl⟩
                    go_wp2_with (at_builtin; refine wpList_append_own _ rfl _ _ 50 rfl w.heap.size 9 i0 (.string ⟨#[]⟩) 1 16 Tryd.underlying50 hi hz0 hz1 hz2 rfl (by decide) _ _ _ rfl (ho.alloc _) ⟨w5.heap.size, 0, none⟩ 1 1 [.string ⟨(Lib.decDigits k).toArray⟩] rfl rfl ?c1 ?c2 ?c3 ?c4 ?c5 ?_)
                    case c1 =>
                      intro j u hj
                      match j, hj with
                      | 0, hj => simp at hj; subst hj; simp [Addr.add]
                    case c2 => intro u hu; simp at hu; subst hu; rfl
                    case c3 => unfold maxLen; omega
                    case c4 => omega
                    case c5 => have := hbw.size; simp; omega
                    intro v' w6 hown' hgrow _
                    have R1 := own_eq (ps := (Mt.rowsTo b (k + 1)).map Mt.rowT) hown' (by rw [R.out]; simp) (by rw [R.out, TEQ.out]; simp [strs])
                    have R2 := (hbw.alloc hbw.size (.cells #[.string ⟨(Lib.decDigits k).toArray⟩] 9)).grown hgrow (by have := hbw.size; simp; omega) (fun k hk => (ho.lt k hk).1)
                    clear hown' hgrow
                    go_wp2_with fail
                    go_roundw
                    case rel => exact ⟨k + 1, B, congrArg (Value.int .i64) (by omega), rfl, by omega, HB2.out, R1, R2⟩
                    case measure => simp [intOf]; omega
                  · have TEQ : Hid ((⟨(Lib.decDigits k).toArray⟩ : ByteArray) ++ ((⟨#[45]⟩ : ByteArray) ++ ⟨(Lib.decDigits m).toArray⟩) = ⟨(Mt.rowT (k, m)).toArray⟩) := row_two' k m (by omega) (by omega) hkm2
                    have t2 : decide ((k : Int) < (m : Int)) = true := by simp; omega
                    go_wp2_with fail
                    refine (IK.out _).mono ?_
                    rintro e w5 ⟨rfl, rfl⟩
                    go_wp2_with fail
                    refine (IM.out _).mono ?_
                    rintro e w7 ⟨rfl, rfl⟩
                    go_wp2_with (at_builtin; refine wpList_append_own _ rfl _ _ 50 rfl w.heap.size 9 i0 (.string ⟨#[]⟩) 1 16 Tryd.underlying50 hi hz0 hz1 hz2 rfl (by decide) _ _ _ rfl (ho.alloc _) ⟨w7.heap.size, 0, none⟩ 1 1 [.string (⟨(Lib.decDigits k).toArray⟩ ++ (⟨#[45]⟩ ++ ⟨(Lib.decDigits m).toArray⟩))] rfl rfl ?c1 ?c2 ?c3 ?c4 ?c5 ?_)
                    case c1 =>
                      intro j u hj
                      match j, hj with
                      | 0, hj => simp at hj; subst hj; simp [Addr.add]
                    case c2 => intro u hu; simp at hu; subst hu; rfl
                    case c3 => unfold maxLen; omega
                    case c4 => omega
                    case c5 => have := hbw.size; simp; omega
                    intro v' w6 hown' hgrow _
                    have R1 := own_eq (ps := (Mt.rowsTo b (k + 1)).map Mt.rowT) hown' (by rw [R.out]; simp) (by rw [R.out, TEQ.out]; simp [strs])
                    have R2 := (hbw.alloc hbw.size (.cells #[.string (⟨(Lib.decDigits k).toArray⟩ ++ (⟨#[45]⟩ ++ ⟨(Lib.decDigits m).toArray⟩))] 9)).grown hgrow (by have := hbw.size; simp; omega) (fun k hk => (ho.lt k hk).1)
                    clear hown' hgrow
                    go_wp2_with fail
                    go_roundw
                    case rel => exact ⟨k + 1, B, congrArg (Value.int .i64) (by omega), rfl, by omega, HB2.out, R1, R2⟩
                    case measure => simp [intOf]; omega
    · obtain rfl : k = size := by omega
      have hAB := all_bits b k HB.out
      cases B
      · have hne : b ≠ 2 ^ k - 1 := fun e => by
          have := HBB.out.2 (hAB.2 e)
          cases this
        have hRN := rows_nil b k HB.out hs16
        have hlen := Mt.rows_len b k
        have hxl : ∀ x ∈ (Mt.rowsTo b k).map Mt.rowT, x.length ≤ 5 := fun x hx => by
          obtain ⟨q, _, rfl⟩ := List.mem_map.1 hx
          exact Mt.rowT_len q
        have hll : ((Mt.rowsTo b k).map Mt.rowT).length ≤ 16 := by rw [List.length_map]; omega
        have ST : Hid (Mt.setT k b = if b = 0 then [45] else Lib.join ((Mt.rowsTo b k).map Mt.rowT) [44]) := by
          show _ = _
          rw [Mt.setT, if_neg hne]
        have hz : ((Mt.rowsTo b k).map Mt.rowT).length = 0 ↔ b = 0 := by
          rw [List.length_map, List.length_eq_zero_iff]
          exact hRN
        clear hAB hne hRN hlen HBB
        generalize (Mt.rowsTo b k).map Mt.rowT = L at *
        by_cases hb0 : b = 0
        · have hL := hz.2 hb0
          have RE : Hid (Mt.setT k b = [45]) := by
            show _ = _
            rw [ST.out, if_pos hb0]
          rcases ho.2 with ⟨hv, _⟩ | ⟨g, cap, cur, hv, _⟩
          · subst hv
            clear hz ho
            go_wp2_with fail
            go_ret
            exact ⟨by rw [RE.out]; rfl, hbw⟩
          · subst hv
            have hL' : (L.length : Int) = 0 := by omega
            clear hz ho
            go_wp2_with fail
            go_ret
            exact ⟨by rw [RE.out]; rfl, hbw⟩
        · have RE : Hid (Mt.setT k b = Lib.join L [44]) := by
            show _ = _
            rw [ST.out, if_neg hb0]
          have hL0 : L.length ≠ 0 := fun e => hb0 (hz.1 e)
          obtain ⟨g, cap, rfl, hg, hcap⟩ : ∃ g cap, u5 = .slice (some ⟨g, 0, none⟩) L.length cap ∧ w.heap.size ≤ g ∧ L.length ≤ cap := by
            obtain ⟨m, hm⟩ : ∃ m, L.length = m + 1 := ⟨L.length - 1, by omega⟩
            rw [hm] at ho ⊢
            exact own_shape ho
          have t0 : ((L.length : Int) == 0) = false := by rw [beq_eq_false_iff_ne]; omega
          have JJ : Hid (Calls Tryd.prog 56 #[.slice (some ⟨g, 0, none⟩) L.length cap, .string ⟨#[44]⟩] wr fun e w' => e = .returned (.string ⟨(Lib.join L [44]).toArray⟩) ∧ w' = wr) := joined_any L g cap wr hll (fun k => by
            have := Mt.join_len 6 (L.take k) [44] (fun y hy => by have := hxl y (List.mem_of_mem_take hy); simp only [List.length_singleton]; omega)
            have h2 : (L.take k).length ≤ 16 := by rw [List.length_take]; omega
            omega) (fun j x hx => own_cell ho rfl hx) hxl hcap
          clear hz ho hxl hll ST
          go_wp2_with fail
          refine JJ.out.mono ?_
          rintro e w4 ⟨rfl, rfl⟩
          go_wp2_with fail
          go_ret
          exact ⟨by rw [RE.out]; rfl, hbw⟩
      · have RE : Hid (Mt.setT k b = [42]) := by
          show _ = _
          rw [Mt.setT, if_pos (hAB.1 (HBB.out.1 rfl))]
        clear hAB HBB ho
        go_wp2_with fail
        go_ret
        exact ⟨by rw [RE.out]; rfl, hbw⟩
end Go.Proofs.YtkckgoeemfjkkaaDoor


