/-
  The document's answer: In, Digits, Pieces.
-/
import Derived.Test.YtnkgjkoncglfjaaGreatDoorZF
import Derived.Test.YtnkgjkoncglfjaaGreatDoorZA
import Derived.Test.YtnkgjkoncglfjaaGreatDoorZB
import Derived.Test.YtnkgjkoncglfjaaGreatDoorZI
namespace Go.Proofs.YtnkgjkoncglfjaaGreatDoor
open Go.RowKit

set_option maxHeartbeats 400000 in
theorem in_yes (n lo hi : Int) (w : World) (h0 : lo ≤ n) (h1 : n ≤ hi) : Calls Tryz.prog 34 #[.int .i64 n, .int .i64 lo, .int .i64 hi] w fun e w' => e = .returned (.bool true) ∧ w' = w := by
  go_enter Tryz.func34, Tryz.ntmps34
  go_wp2
  go_ret
  exact ⟨rfl, rfl⟩
set_option maxHeartbeats 400000 in
theorem in_no (n lo hi : Int) (w : World) (h : ¬ (lo ≤ n ∧ n ≤ hi)) : Calls Tryz.prog 34 #[.int .i64 n, .int .i64 lo, .int .i64 hi] w fun e w' => e = .returned (.bool false) ∧ w' = w := by
  by_cases h0 : lo ≤ n
  · have h1 : ¬ n ≤ hi := fun e => h ⟨h0, e⟩
    clear h
    go_enter Tryz.func34, Tryz.ntmps34
    go_wp2
    go_ret
    exact ⟨rfl, rfl⟩
  · clear h
    go_enter Tryz.func34, Tryz.ntmps34
    go_wp2
    go_ret
    exact ⟨rfl, rfl⟩


theorem head48 (s : ByteArray) (h : 0 < s.size) : s.data.toList.head? = some 48 ↔ (s[0].toNat : Int) = 48 := by
  rw [head_of s h]
  constructor
  · intro e
    have := Option.some.inj e
    rw [this]; rfl
  · intro e
    congr 1
    apply UInt8.toNat_inj.1
    have e2 : s[0].toNat = 48 := by omega
    rw [e2]; rfl

set_option maxHeartbeats 2000000 in
theorem digits_any (s : ByteArray) (most : Int) (w : World) (hm : s.size ≤ maxLen) :
    Calls Tryz.prog 30 #[.string s, .int .i64 most] w fun e w' => e = .returned (.int .i64 (Pk.dg most s.data.toList)) ∧ w' = w := by
  have hl : Hid (s.data.toList.length = s.size) := (Lib.size_eq s).symm
  unfold maxLen at hm
  go_enter Tryz.func30, Tryz.ntmps30
  go_wp2
  go_loop [5, 6] (fun a i => ∃ k n : Nat, k ≤ s.size ∧ k ≤ 5 ∧ i = .int .i64 k ∧ a = .int .i64 n ∧ n < 10 ^ k ∧ Pk.digs n (s.data.toList.drop k) = Pk.digs 0 s.data.toList) (fun _ i => s.size - (intOf i).toNat)
  case atStart => exact ⟨0, 0, by omega, by omega, rfl, rfl, by simp, by simp⟩
  case round =>
    obtain ⟨k, n, hk, hk5, rfl, rfl, hn, hd⟩ := hrel
    have HD : Hid (Pk.digs n (s.data.toList.drop k) = Pk.digs 0 s.data.toList) := hd
    clear hd
    by_cases hlt : k < s.size
    · by_cases hlt5 : k < 5
      · have hp : 10 ^ k ≤ 10 ^ 4 := Nat.pow_le_pow_right (by omega) (by omega)
        have hn2 : n ≤ 9999 := by omega
        have HN : Hid (n < 10 ^ k) := hn
        clear hn hp
        by_cases hlo : 48 ≤ (s[k].toNat : Int)
        · by_cases hhi : (s[k].toNat : Int) ≤ 57
          · have S : Hid (Pk.digs n (s.data.toList.drop k) = Pk.digs (10 * n + (s[k].toNat - 48)) (s.data.toList.drop (k + 1))) := digs_step s n k hlt hlo hhi
            go_wp2
            go_round
            case rel => exact ⟨k + 1, 10 * n + (s[k].toNat - 48), by omega, by omega, congrArg (Value.int .i64) (by omega), congrArg (Value.int .i64) (by omega), by have := HN.out; rw [Nat.pow_succ]; omega, S.out.symm.trans HD.out⟩
            case measure => simp [intOf]; omega
          · go_wp2
            go_ret
            rw [Pk.dg_stop most _ (by rw [← HD.out, digs_stop s n k hlt (Or.inr (by omega))])]
            exact ⟨rfl, rfl⟩
        · go_wp2
          go_ret
          rw [Pk.dg_stop most _ (by rw [← HD.out, digs_stop s n k hlt (Or.inl (by omega))])]
          exact ⟨rfl, rfl⟩
      · go_wp2_with fail
        refine (in_no _ _ _ _ (by omega)).mono ?_; rintro e w1 ⟨rfl, rfl⟩
        go_wp2
        go_ret
        rw [Pk.dg_long most _ (Or.inr (by rw [hl.out]; omega))]
        exact ⟨rfl, rfl⟩
    · by_cases h0 : 1 ≤ s.size ∧ s.size ≤ 4
      · obtain ⟨h1, h4⟩ := h0
        have E : Hid (Pk.digs 0 s.data.toList = some n) := by
          have := HD.out
          rw [digs_end s n k (by omega)] at this
          exact this.symm
        clear hn
        go_wp2_with fail
        refine (in_yes _ _ _ _ (by omega) (by omega)).mono ?_; rintro e w1 ⟨rfl, rfl⟩
        by_cases hbig : most < n
        · go_wp2
          go_ret
          rw [Pk.dg_big most _ n E.out hbig]
          exact ⟨rfl, rfl⟩
        · by_cases hone : 1 < s.size
          · by_cases hz : (s[0].toNat : Int) = 48
            · go_wp2
              go_ret
              rw [Pk.dg_nought most _ (by rw [hl.out]; omega) ((head48 s (by omega)).2 hz)]
              exact ⟨rfl, rfl⟩
            · have hzb : ((s[0].toNat : Int) == 48) = false := beq_eq_false_iff_ne.2 hz
              go_wp2
              go_ret
              rw [Pk.dg_ok most _ n (by rw [hl.out]; omega) (by rw [hl.out]; omega) (fun ⟨_, e⟩ => hz ((head48 s (by omega)).1 e)) E.out (by omega)]
              exact ⟨rfl, rfl⟩
          · go_wp2
            go_ret
            rw [Pk.dg_ok most _ n (by rw [hl.out]; omega) (by rw [hl.out]; omega) (fun ⟨e, _⟩ => hone (by rw [hl.out] at e; omega)) E.out (by omega)]
            exact ⟨rfl, rfl⟩
      · go_wp2_with fail
        refine (in_no _ _ _ _ (by omega)).mono ?_; rintro e w1 ⟨rfl, rfl⟩
        go_wp2
        go_ret
        rw [Pk.dg_long most _ (by rw [hl.out]; omega)]
        exact ⟨rfl, rfl⟩

theorem strs_snoc (l : List (List UInt8)) (p : List UInt8) : strs (l ++ [p]) = strs l ++ [.string ⟨p.toArray⟩] := by unfold strs; simp
theorem strs_len (l : List (List UInt8)) : (strs l).length = l.length := by unfold strs; simp
theorem strs_set (ini : List (List UInt8)) (a b : List UInt8) : (strs (ini ++ [a])).set ini.length (.string ⟨b.toArray⟩) = strs (ini ++ [b]) := by
  rw [strs_snoc, strs_snoc, List.set_append_right _ _ (by rw [strs_len]; exact Nat.le_refl _), strs_len]
  simp
theorem strs_at (ini : List (List UInt8)) (a : List UInt8) : (strs (ini ++ [a]))[ini.length]? = some (.string ⟨a.toArray⟩) := by
  rw [strs_snoc, List.getElem?_append_right (by rw [strs_len]; exact Nat.le_refl _), strs_len]
  simp

theorem take_snoc (s : ByteArray) (k : Nat) (h : k < s.size) : s.data.toList.take (k + 1) = s.data.toList.take k ++ [s[k]] := by
  rw [List.take_succ_eq_append_getElem (by simpa using h)]; rfl

theorem cat_one (a : List UInt8) (s : ByteArray) (k : Nat) (h : k < s.size) : ((⟨a.toArray⟩ : ByteArray) ++ s.extract k (k + 1)) = ⟨(a ++ [s[k]]).toArray⟩ := by
  rw [Lib.extract_eq]
  apply ByteArray.ext
  rw [ByteArray.data_append]
  have e : List.take (k + 1 - k) (List.drop k s.data.toList) = [s[k]] := by
    rw [drop_of s k h, show k + 1 - k = 1 by omega]
    rfl
  rw [e]
  simp

theorem own_shape {w : World} {B m : Nat} {v : Value} {xs : List Value} (h : w.ownsRow B 9 1 v (m + 1) xs) : ∃ g cap, v = .slice (some ⟨g, 0, none⟩) (m + 1) cap ∧ B ≤ g ∧ m + 1 ≤ cap := by
  rcases h.2 with ⟨_, h'⟩ | ⟨g, cap, cur, h', hb, _, hc, _⟩
  · omega
  · exact ⟨g, cap, h', hb, hc⟩

set_option maxHeartbeats 2000000 in
set_option maxRecDepth 100000 in
theorem pieces_any (s : ByteArray) (c : UInt8) (w : World) (hm : s.size ≤ 2097152) :
    Calls Tryz.prog 12 #[.string s, .int .u8 (c.toNat : Int)] w fun e w' => ∃ v, e = .returned v ∧ w'.ownsRow w.heap.size 9 1 v (Pk.pieces c s.data.toList).length (strs (Pk.pieces c s.data.toList)) ∧ Below w.heap.size w w' := by
  obtain ⟨i0, hi, hz0, hz1, hz2⟩ := info_parts Tryz.info9
  go_enter Tryz.func12, Tryz.ntmps12
  go_wp2
  go_loopw [5, 6] (fun v i wr => ∃ k : Nat, k ≤ s.size ∧ i = .int .i64 k ∧ wr.ownsRow w.heap.size 9 1 v (Pk.pieces c (s.data.toList.take k)).length (strs (Pk.pieces c (s.data.toList.take k))) ∧ Below w.heap.size w wr) (fun _ i _ => s.size - (intOf i).toNat)
  case atStart => exact ⟨0, Nat.zero_le _, rfl, World.ownsRow_lit w #[.string ⟨#[]⟩] 1 (Nat.le_refl _) (by decide) rfl, (Below.refl _ _).alloc (Nat.le_refl _) _⟩
  case round =>
    obtain ⟨k, hk, rfl, hown, hbel⟩ := hrel
    obtain ⟨ini, last, hps, hll, hil⟩ := Pk.pieces_last c (s.data.toList.take k)
    rw [List.length_take] at hll hil
    have HP : Hid (Pk.pieces c (s.data.toList.take k) = ini ++ [last]) := hps
    rw [hps] at hown
    clear hps
    have hl1 : last.length ≤ 2097152 := by omega
    have hi1 : ini.length ≤ 2097152 := by omega
    clear hll hil
    by_cases hlt : k < s.size
    · have HT : Hid (s.data.toList.take (k + 1) = s.data.toList.take k ++ [s[k]]) := take_snoc s k hlt
      by_cases hx : s[k] = c
      · have hxb : ((s[k].toNat : Int) == (c.toNat : Int)) = true := by rw [hx]; simp
        have HX : Hid (s[k] = c) := hx
        clear hx
        rw [List.length_append, List.length_singleton] at hown
        go_wp2_with (at_builtin; refine wpList_append_own _ rfl _ _ 36 rfl w.heap.size 9 i0 (.string ⟨#[]⟩) 1 16 Tryz.underlying36 hi hz0 hz1 hz2 rfl (by decide) _ _ _ rfl (hown.alloc _) ⟨wr.heap.size, 0, none⟩ 1 1 [.string ⟨#[]⟩] rfl rfl ?c1 ?c2 ?c3 ?c4 ?c5 ?_)
        case c1 =>
          intro j u hj
          match j, hj with
          | 0, hj => simp at hj; subst hj; simp [Addr.add]
        case c2 => intro u hu; simp at hu; subst hu; rfl
        case c3 => unfold maxLen; omega
        case c4 => omega
        case c5 => have := hbel.size; simp; omega
        intro v' w1 hown' hgrow _
        have R1 := own_eq (ps := Pk.pieces c (s.data.toList.take (k + 1))) hown' (by rw [HT.out, Pk.pieces_snoc, HP.out, HX.out, Pk.step_hit]; simp) (by rw [HT.out, Pk.pieces_snoc, HP.out, HX.out, Pk.step_hit, strs_snoc (ini ++ [last])])
        have R2 := (hbel.alloc hbel.size (.cells #[.string ⟨#[]⟩] 9)).grown hgrow (by have := hbel.size; simp; omega) (fun k hk => (hown.lt k hk).1)
        clear hown' hgrow hown hbel
        go_wp2
        go_roundw
        case rel => exact ⟨k + 1, by omega, by go_num, R1, R2⟩
        case measure => simp [intOf]; omega
      · have hxb : ((s[k].toNat : Int) == (c.toNat : Int)) = false := by
          rw [beq_eq_false_iff_ne]
          intro e
          exact hx (UInt8.toNat_inj.1 (by omega))
        have HX : Hid (s[k] ≠ c) := hx
        clear hx
        rw [List.length_append, List.length_singleton] at hown
        obtain ⟨g, cap, rfl, hg, hcap⟩ := own_shape hown
        have hcell : wr.cell? ⟨g, ini.length, none⟩ = some (.string ⟨last.toArray⟩) := by
          rw [hown.cellAt ini.length (by omega), strs_at]
        have hfr : wr.frozen? ⟨g, ini.length, none⟩ = false := hown.frozenAt _
        have HS : Hid (((⟨last.toArray⟩ : ByteArray) ++ s.extract k (k + 1)) = ⟨(last ++ [s[k]]).toArray⟩) := cat_one last s k hlt
        have HO : Hid (wr.ownsRow w.heap.size 9 1 (.slice (some ⟨g, 0, none⟩) (ini.length + 1) cap) (ini.length + 1) (strs (ini ++ [last]))) := hown
        clear hown
        go_wp2_with fail
        go_region
        go_wp2
        go_roundw
        case rel =>
          rw [HS.out]
          have R1 := own_eq (ps := Pk.pieces c (s.data.toList.take (k + 1))) (HO.out.stored ini.length (.string ⟨(last ++ [s[k]]).toArray⟩)).1 (by rw [HT.out, Pk.pieces_snoc, HP.out, Pk.step_miss c _ _ _ HX.out]; simp) (by rw [HT.out, Pk.pieces_snoc, HP.out, Pk.step_miss c _ _ _ HX.out, strs_set])
          exact ⟨k + 1, by omega, by go_num, R1.drew, (hbel.setCell hg _).drew⟩
        case measure => simp [intOf]; omega
    · have HE : Hid (s.data.toList.take k = s.data.toList) := List.take_of_length_le (by rw [← Lib.size_eq]; omega)
      rw [← HP.out] at hown
      go_wp2
      go_ret
      rw [HE.out] at hown
      exact ⟨_, rfl, hown, hbel⟩

end Go.Proofs.YtnkgjkoncglfjaaGreatDoor



namespace Go.Proofs.Mt
open Go.Proofs.Pk

theorem dg_cases (most : Int) (l : List UInt8) : (∃ n : Nat, num l = some n ∧ (n : Int) ≤ most ∧ dg most l = n) ∨ (dg most l = -1 ∧ ∀ n, num l = some n → ¬ (n : Int) ≤ most) := by
  unfold dg
  cases h : num l with
  | none => right; exact ⟨rfl, fun n e => by cases e⟩
  | some n =>
    by_cases hn : (n : Int) ≤ most
    · left; exact ⟨n, rfl, hn, by simp [hn]⟩
    · right
      refine ⟨by simp [hn], fun m e => ?_⟩
      obtain rfl := Option.some.inj e
      exact hn


/-- Rows with more than two pieces are none. -/
theorem rowP_many (size : Nat) (l : List UInt8) (h : 2 < (pieces 45 l).length) : rowP size l = none := by
  rcases pieces_cases 45 l with ⟨_, h1 | ⟨a, b, h1, h2⟩⟩ | ⟨a, b, _, _, h3⟩
  · rw [pieces_spl, spl_no 45 l (brk_none 45 l h1)] at h
    simp at h
  · unfold rowP
    rw [h1]
    simp only
    rw [num_bad 45 b (by decide) h2]
    cases num a <;> rfl
  · rw [h3] at h
    simp at h
/-- Rows with one or two: the first and the last one. -/
theorem rowP_few (size : Nat) (l : List UInt8) (h : (pieces 45 l).length ≤ 2) :
    ∃ a b : List UInt8, (pieces 45 l)[0]? = some a ∧ (pieces 45 l)[(pieces 45 l).length - 1]? = some b ∧ 1 ≤ (pieces 45 l).length ∧
      ((∃ p : Nat × Nat, rowP size l = some p ∧ dg ((size : Int) - 1) a = p.1 ∧ dg ((size : Int) - 1) b = p.2 ∧ p.1 ≤ p.2 ∧ p.2 < size) ∨
       (rowP size l = none ∧ (dg ((size : Int) - 1) a < 0 ∨ dg ((size : Int) - 1) b < 0 ∨ dg ((size : Int) - 1) b < dg ((size : Int) - 1) a))) := by
  have key : ∀ a b : List UInt8, (∀ x y, num a = some x → num b = some y → rowP size l = if x ≤ y ∧ y < size then some (x, y) else none) → ((num a = none ∨ num b = none) → rowP size l = none) →
      ((∃ p : Nat × Nat, rowP size l = some p ∧ dg ((size : Int) - 1) a = p.1 ∧ dg ((size : Int) - 1) b = p.2 ∧ p.1 ≤ p.2 ∧ p.2 < size) ∨
       (rowP size l = none ∧ (dg ((size : Int) - 1) a < 0 ∨ dg ((size : Int) - 1) b < 0 ∨ dg ((size : Int) - 1) b < dg ((size : Int) - 1) a))) := by
    intro a b h1 h2
    rcases dg_cases ((size : Int) - 1) a with ⟨x, ex, bx, gx⟩ | ⟨gx, ex⟩
    · rcases dg_cases ((size : Int) - 1) b with ⟨y, ey, by', gy⟩ | ⟨gy, ey⟩
      · have hr := h1 x y ex ey
        by_cases hc : x ≤ y ∧ y < size
        · rw [if_pos hc] at hr
          exact Or.inl ⟨(x, y), hr, gx, gy, hc.1, hc.2⟩
        · rw [if_neg hc] at hr
          exact Or.inr ⟨hr, Or.inr (Or.inr (by rw [gx, gy]; omega))⟩
      · refine Or.inr ⟨?_, Or.inr (Or.inl (by rw [gy]; decide))⟩
        cases hb : num b with
        | none => exact h2 (Or.inr hb)
        | some y =>
          have := ey y hb
          rw [h1 x y ex hb, if_neg (by omega)]
    · refine Or.inr ⟨?_, Or.inl (by rw [gx]; decide)⟩
      cases ha : num a with
      | none => exact h2 (Or.inl ha)
      | some x =>
        have := ex x ha
        cases hb : num b with
        | none => exact h2 (Or.inr hb)
        | some y => rw [h1 x y ha hb, if_neg (by omega)]
  rcases pieces_cases 45 l with ⟨hl, h1 | ⟨a, b, h1, h2⟩⟩ | ⟨a, b, h1, _, h3⟩
  · have e : pieces 45 l = [l] := by rw [pieces_spl, spl_no 45 l (brk_none 45 l h1)]
    rw [e]
    refine ⟨l, l, rfl, rfl, Nat.le_refl _, key l l ?_ ?_⟩
    · intro x y hx hy
      unfold rowP
      rw [h1]
      simp only [hx]
      rw [hx] at hy
      obtain rfl := Option.some.inj hy
      simp
    · intro hn
      unfold rowP
      rw [h1]
      have : num l = none := by rcases hn with h | h <;> exact h
      simp only [this]
  · obtain ⟨e1, e2⟩ := brk_some 45 l a b h1
    have h3 : 0 < b.count 45 := List.count_pos_iff.2 h2
    rw [pieces_len, e1, List.count_append, List.count_cons_self] at h hl
    omega
  · rw [h3]
    refine ⟨a, b, rfl, rfl, by simp, key a b ?_ ?_⟩
    · intro x y hx hy
      unfold rowP
      rw [h1]
      simp only [hx, hy]
    · intro hn
      unfold rowP
      rw [h1]
      simp only
      rcases hn with h | h
      · rw [h]
      · rw [h]; cases num a <;> rfl

/-- Bits set from lo on, one more. -/
theorem or_step (z lo n : Nat) (h : lo ≤ n) : (z ||| (2 ^ n - 2 ^ lo)) ||| 2 ^ n = z ||| (2 ^ (n + 1) - 2 ^ lo) := by
  apply Nat.eq_of_testBit_eq
  intro i
  have e : ∀ m, lo ≤ m → (2 ^ m - 2 ^ lo).testBit i = (decide (lo ≤ i) && decide (i < m)) := fun m hm => by
    rw [show 2 ^ m - 2 ^ lo = (2 ^ (m - lo) - 1) * 2 ^ lo by rw [Nat.sub_mul, ← Nat.pow_add, show m - lo + lo = m by omega, Nat.one_mul], Nat.testBit_mul_two_pow, Nat.testBit_two_pow_sub_one]
    by_cases h1 : lo ≤ i
    · simp [h1]; omega
    · simp [h1]
  rw [Nat.testBit_or, Nat.testBit_or, Nat.testBit_or, e n h, e (n + 1) (by omega), Nat.testBit_two_pow]
  have k : (decide (lo ≤ i) && decide (i < n) || decide (n = i)) = (decide (lo ≤ i) && decide (i < n + 1)) := by
    rw [Bool.eq_iff_iff]
    simp
    omega
  rw [Bool.or_assoc, k]
end Go.Proofs.Mt



namespace Go.Proofs.YtnkgjkoncglfjaaGreatDoor
open Go.RowKit

/-- A set's bits, or -1. -/
def optV (o : Option Nat) : Int := match o with
  | none => -1
  | some z => z

theorem or_bitR (z n : Nat) (hz : z < 2 ^ 16) (hn : n < 16) : Go.bits .or .i64 (z : Int) (wrap64 (2 ^ n)) = ((z ||| 2 ^ n : Nat) : Int) := by
  have p1 : 2 ^ n < 2 ^ 16 := Nat.pow_lt_pow_right (by omega) hn
  have e1 : wrap64 ((2 : Int) ^ n) = ((2 ^ n : Nat) : Int) := by
    rw [show (2 : Int) ^ n = ((2 ^ n : Nat) : Int) by simp, ← IntWalk.i64_left]
    generalize 2 ^ n = q at *
    exact IntWalk.i64_in _ (by omega)
  rw [e1]
  generalize 2 ^ n = m at *
  have hle : z ||| m < 2 ^ 16 := Nat.or_lt_two_pow hz p1
  have hmm : (BitVec.ofInt 64 (z : Int) ||| BitVec.ofInt 64 (m : Int)).toNat = z ||| m := by
    rw [show BitVec.ofInt 64 (z : Int) = BitVec.ofNat 64 z by simp, show BitVec.ofInt 64 (m : Int) = BitVec.ofNat 64 m by simp, BitVec.toNat_or, BitVec.toNat_ofNat, BitVec.toNat_ofNat, Nat.mod_eq_of_lt (by omega), Nat.mod_eq_of_lt (by omega)]
  show IntKind.i64.wrap ((BitVec.ofInt 64 (z : Int) ||| BitVec.ofInt 64 (m : Int)).toNat : Int) = _
  rw [hmm, IntWalk.i64_in _ (by omega)]

theorem own_cellR {w : World} {B g m cap : Nat} {ps : List (List UInt8)} (h : w.ownsRow B 9 1 (.slice (some ⟨g, 0, none⟩) m cap) m (strs ps)) (hm : m = ps.length) {j : Nat} {x : List UInt8} (hx : ps[j]? = some x) : w.cell? ⟨g, j, none⟩ = some (.string ⟨x.toArray⟩) := by
  have hj := (List.getElem?_eq_some_iff.1 hx).1
  rw [h.cellAt j (by omega)]
  unfold strs
  rw [List.getElem?_map, hx]
  rfl
theorem own_lt {w : World} {B g m cap : Nat} {xs : List Value} (h : w.ownsRow B 9 1 (.slice (some ⟨g, 0, none⟩) m cap) m xs) : g < w.heap.size := by
  rcases h.2 with ⟨h', _⟩ | ⟨g', cap', cur, h', _, hg, _⟩
  · cases h'
  · simp only [Value.slice.injEq, Option.some.injEq, Addr.mk.injEq, and_true, true_and] at h'
    obtain ⟨rfl, _⟩ := h'
    exact (Array.getElem?_eq_some_iff.1 hg).1

set_option maxHeartbeats 4000000 in
set_option maxRecDepth 100000 in
theorem readRows_loop (s : ByteArray) (size : Nat) (w : World) (hsz : size = 16 ∨ size = 8) (hs : s.size ≤ 300) (e1 : (s.toList == [42]) = false) (e2 : (s.toList == [45]) = false) :
    Calls Tryz.prog 61 #[.string s, .int .i64 (size : Int)] w fun e w' => e = .returned (.int .i64 (optV (Mt.acc size 0 (Pk.pieces 44 s.data.toList)))) ∧ Below w.heap.size w w' := by
  have hz16 : size ≤ 16 := by omega
  have PC : Hid (∀ w, Calls Tryz.prog 12 #[.string s, .int .u8 44] w fun e w' => ∃ v, e = .returned v ∧ w'.ownsRow w.heap.size 9 1 v (Pk.pieces 44 s.data.toList).length (strs (Pk.pieces 44 s.data.toList)) ∧ Below w.heap.size w w') := fun w => pieces_any s 44 w (by omega)
  have hsl : ∀ (j : Nat) x, (Pk.pieces 44 s.data.toList)[j]? = some x → x.length ≤ 300 := fun j x hj => by
    have := spl_len 44 s.data.toList x (by rw [← Mt.pieces_spl]; exact List.mem_of_getElem? hj)
    rw [← Lib.size_eq] at this
    omega
  have hpl := Pk.pieces_len 44 s.data.toList
  have hcl : s.data.toList.count 44 ≤ 300 := by
    have := List.count_le_length (a := (44 : UInt8)) (l := s.data.toList)
    rw [← Lib.size_eq] at this
    omega
  have HSL : Hid (∀ (j : Nat) x, (Pk.pieces 44 s.data.toList)[j]? = some x → x.length ≤ 300) := hsl
  have hL1 : 1 ≤ (Pk.pieces 44 s.data.toList).length := by omega
  have hL2 : (Pk.pieces 44 s.data.toList).length ≤ 301 := by omega
  clear hsl hpl hcl
  generalize Pk.pieces 44 s.data.toList = L at *
  have wr1 : IntKind.i64.wrap ((size : Int) - 1) = (size : Int) - 1 := IntWalk.i64_in _ (by omega)
  go_enter Tryz.func61, Tryz.ntmps61
  go_wp2_with fail
  refine (PC.out _).mono ?_
  rintro e w1 ⟨v, rfl, ho, D1⟩
  obtain ⟨g, cap, rfl, hg, hcap⟩ : ∃ g cap, v = .slice (some ⟨g, 0, none⟩) L.length cap ∧ w.heap.size ≤ g ∧ L.length ≤ cap := by
    obtain ⟨m, hm⟩ : ∃ m, L.length = m + 1 := ⟨L.length - 1, by omega⟩
    rw [hm] at ho ⊢
    exact own_shape ho
  clear PC
  go_wp2_with fail
  go_loopw [7, 5] (fun i b wr => ∃ k z : Nat, i = .int .i64 (k : Int) ∧ b = .int .i64 (z : Int) ∧ k ≤ L.length ∧ z < 2 ^ size ∧ Mt.acc size z (L.drop k) = Mt.acc size 0 L ∧ Below w1.heap.size w1 wr) (fun i _ _ => L.length - (intOf i).toNat)
  case atStart => exact ⟨0, 0, rfl, rfl, Nat.zero_le _, Nat.two_pow_pos _, rfl, Below.refl _ _⟩
  case round =>
    obtain ⟨k, z, rfl, rfl, hk, hz, hac, hbw⟩ := hrel
    have hz' : z < 2 ^ 16 := Nat.lt_of_lt_of_le hz (Nat.pow_le_pow_right (by omega) hz16)
    have HA : Hid (Mt.acc size z (L.drop k) = Mt.acc size 0 L) := hac
    have HZ : Hid (z < 2 ^ size) := hz
    clear hac hz
    by_cases hlt : k < L.length
    · obtain ⟨x, hxk⟩ : ∃ x, L[k]? = some x := ⟨L[k], List.getElem?_eq_getElem hlt⟩
      have hc := own_cellR (own_below ho hbw) rfl hxk
      have hx300 := HSL.out k x hxk
      have hdrop : L.drop k = x :: L.drop (k + 1) := by
        rw [List.drop_eq_getElem_cons hlt]
        rw [List.getElem?_eq_getElem hlt] at hxk
        rw [Option.some.inj hxk]
      have HQ : Hid (Mt.acc size 0 L = match Mt.rowP size x with
          | none => none
          | some p => Mt.acc size (z ||| Mt.mask p) (L.drop (k + 1))) := by
        show _ = _
        rw [← HA.out, hdrop, Mt.acc]
        cases Mt.rowP size x <;> rfl
      have PX : Hid (∀ w, Calls Tryz.prog 12 #[.string ⟨x.toArray⟩, .int .u8 45] w fun e w' => ∃ v, e = .returned v ∧ w'.ownsRow w.heap.size 9 1 v (Pk.pieces 45 x).length (strs (Pk.pieces 45 x)) ∧ Below w.heap.size w w') := fun w => by
        have := pieces_any ⟨x.toArray⟩ 45 w (by rw [Lib.size_eq]; simp; omega)
        simpa using this
      have hml := Mt.rowP_many size x
      have hfw := Mt.rowP_few size x
      have HML : Hid (2 < (Pk.pieces 45 x).length → Mt.rowP size x = none) := hml
      have hP1 : 1 ≤ (Pk.pieces 45 x).length := by have := Pk.pieces_len 45 x; omega
      have hP2 : (Pk.pieces 45 x).length ≤ 301 := by
        have := Pk.pieces_len 45 x
        have := List.count_le_length (a := (45 : UInt8)) (l := x)
        omega
      have hpx : ∀ (j : Nat) y, (Pk.pieces 45 x)[j]? = some y → y.length ≤ 300 := fun j y hj => by
        have := spl_len 45 x y (by rw [← Mt.pieces_spl]; exact List.mem_of_getElem? hj)
        omega
      clear hml hdrop HA hxk
      generalize Pk.pieces 45 x = P at *
      go_wp2_with fail
      refine (PX.out _).mono ?_
      rintro e w2 ⟨v2, rfl, ho2, hb2⟩
      have D2 := chain hb2 hbw
      obtain ⟨g2, cap2, rfl, hg2, hcap2⟩ : ∃ g cap, v2 = .slice (some ⟨g, 0, none⟩) P.length cap ∧ wr.heap.size ≤ g ∧ P.length ≤ cap := by
        obtain ⟨m, hm⟩ : ∃ m, P.length = m + 1 := ⟨P.length - 1, by omega⟩
        rw [hm] at ho2 ⊢
        exact own_shape ho2
      clear PX hb2 hbw hc
      by_cases hmany : 2 < P.length
      · have HN : Hid (Mt.acc size 0 L = none) := by
          show _ = _
          rw [HQ.out, HML.out hmany]
        have DD := D1.trans (D2.mono D1.size)
        go_wp2_with fail
        go_ret
        exact ⟨by rw [HN.out]; rfl, DD⟩
      · obtain ⟨ra, rb, ha, hb, _, hcase⟩ := hfw (by omega)
        have la := hpx _ _ ha
        have lb := hpx _ _ hb
        have ca := own_cellR ho2 rfl ha
        have cb := own_cellR ho2 rfl hb
        clear hfw hpx HML ha hb
        have DA : Hid (∀ w, Calls Tryz.prog 30 #[.string ⟨ra.toArray⟩, .int .i64 ((size : Int) - 1)] w fun e w' => e = .returned (.int .i64 (Pk.dg ((size : Int) - 1) ra)) ∧ w' = w) := fun w => by
          have := digits_any ⟨ra.toArray⟩ ((size : Int) - 1) w (by rw [Lib.size_eq]; unfold maxLen; simp; omega)
          simpa using this
        have DB : Hid (∀ w, Calls Tryz.prog 30 #[.string ⟨rb.toArray⟩, .int .i64 ((size : Int) - 1)] w fun e w' => e = .returned (.int .i64 (Pk.dg ((size : Int) - 1) rb)) ∧ w' = w) := fun w => by
          have := digits_any ⟨rb.toArray⟩ ((size : Int) - 1) w (by rw [Lib.size_eq]; unfold maxLen; simp; omega)
          simpa using this
        have hP : P.length = 1 ∨ P.length = 2 := by omega
        have ho2l := own_lt ho2
        generalize P.length = n2 at *
        clear ho2
        rcases hP with rfl | rfl
        · have cb' : w2.cell? ⟨g2, 0, none⟩ = some (.string ⟨rb.toArray⟩) := cb
          obtain rfl : ra = rb := by
            rw [ca] at cb'
            simp only [Option.some.injEq, Value.string.injEq, ByteArray.mk.injEq] at cb'
            have := congrArg Array.toList cb'
            simpa using this
          clear cb cb' DB
          generalize Pk.dg ((size : Int) - 1) ra = lo at *
          go_wp2_with fail
          go_quiet ((go_at_call 30; exact Calls.quiet_of_same (DA.out _)))
          have D3 := below_drewN D2 nq
          have DD := below_drewN (D1.trans (D2.mono D1.size)) nq
          rcases hcase with ⟨⟨pl, ph⟩, hrow, hl1, hl2, hle, hlt2⟩ | ⟨hrow, hbad⟩
          · obtain rfl : pl = ph := by
              simp only at hl1 hl2
              omega
            subst hl1
            have HV : Hid (Mt.acc size 0 L = Mt.acc size (z ||| Mt.mask (pl, pl)) (L.drop (k + 1))) := by
              show _ = _
              rw [HQ.out, hrow]
            have HL : Hid (z ||| Mt.mask (pl, pl) < 2 ^ size) := Nat.or_lt_two_pow HZ.out (Mt.mask_le (pl, pl) size hlt2)
            simp only at hle hlt2
            clear HQ hrow ca DA DD D2
            go_wp2_with fail
            go_loopw [11, 5] (fun n b wq => ∃ m : Nat, n = .int .i64 (m : Int) ∧ pl ≤ m ∧ m ≤ pl + 1 ∧ b = .int .i64 ((z ||| (2 ^ m - 2 ^ pl) : Nat) : Int) ∧ Below w1.heap.size w1 wq) (fun n _ _ => pl + 1 - (intOf n).toNat)
            case atStart => exact ⟨pl, rfl, Nat.le_refl _, by omega, by simp, D3⟩
            case round =>
              obtain ⟨m, rfl, hm1, hm2, rfl, hbq⟩ := hrel
              have hzm : z ||| (2 ^ m - 2 ^ pl) < 2 ^ 16 := Nat.or_lt_two_pow hz' (by
                have : 2 ^ m ≤ 2 ^ 16 := Nat.pow_le_pow_right (by omega) (by omega)
                have := Nat.two_pow_pos pl
                have := Nat.two_pow_pos m
                omega)
              by_cases hmp : m ≤ pl
              · have HO : Hid (Go.bits .or .i64 ((z ||| (2 ^ m - 2 ^ pl) : Nat) : Int) (wrap64 (2 ^ m)) = ((z ||| (2 ^ (m + 1) - 2 ^ pl) : Nat) : Int)) := by
                  show _ = _
                  rw [or_bitR _ m hzm (by omega), Mt.or_step z pl m hm1]
                generalize z ||| (2 ^ m - 2 ^ pl) = zm at *
                go_wp2_with fail
                go_roundw
                case rel => exact ⟨m + 1, congrArg (Value.int .i64) (by omega), by omega, by omega, congrArg (Value.int .i64) HO.out, hbq⟩
                case measure => simp [intOf]; omega
              · obtain rfl : m = pl + 1 := by omega
                have HE : Hid ((z ||| (2 ^ (pl + 1) - 2 ^ pl)) = z ||| Mt.mask (pl, pl)) := rfl
                generalize z ||| (2 ^ (pl + 1) - 2 ^ pl) = zm at *
                go_wp2_with fail
                go_roundw
                case rel => exact ⟨k + 1, z ||| Mt.mask (pl, pl), congrArg (Value.int .i64) (by omega), by rw [HE.out], by omega, HL.out, HV.out.symm, hbq⟩
                case measure => simp [intOf]; omega
          · have HN : Hid (Mt.acc size 0 L = none) := by
              show _ = _
              rw [HQ.out, hrow]
            clear HQ hrow ca DA D3 D2
            by_cases b1 : lo < 0
            · go_wp2_with fail
              go_ret
              exact ⟨by rw [HN.out]; rfl, DD⟩
            · exact absurd hbad (by omega)
        · have cb' : w2.cell? ⟨g2, 1, none⟩ = some (.string ⟨rb.toArray⟩) := cb
          clear cb
          have h21 : IntKind.i64.wrap (((2 : Nat) : Int) - 1) = 1 := by kernel_rfl
          have h22 : IntKind.i64.wrap ((2 : Int) - 1) = 1 := by kernel_rfl
          generalize Pk.dg ((size : Int) - 1) ra = lo at *
          generalize Pk.dg ((size : Int) - 1) rb = hi at *
          go_wp2_with fail
          go_quiet ((first | (go_at_call_of 30 (Value.string ⟨ra.toArray⟩); exact Calls.quiet_of_same (DA.out _)) | (go_at_call_of 30 (Value.string ⟨rb.toArray⟩); exact Calls.quiet_of_same (DB.out _))))
          have D3 := below_drewN D2 nq
          have DD := below_drewN (D1.trans (D2.mono D1.size)) nq
          rcases hcase with ⟨⟨pl, ph⟩, hrow, rfl, rfl, hle, hlt2⟩ | ⟨hrow, hbad⟩
          · have HV : Hid (Mt.acc size 0 L = Mt.acc size (z ||| Mt.mask (pl, ph)) (L.drop (k + 1))) := by
              show _ = _
              rw [HQ.out, hrow]
            have HL : Hid (z ||| Mt.mask (pl, ph) < 2 ^ size) := Nat.or_lt_two_pow HZ.out (Mt.mask_le (pl, ph) size hlt2)
            simp only at hle hlt2
            clear HQ hrow ca cb' DA DB DD D2
            go_wp2_with fail
            go_loopw [11, 5] (fun n b wq => ∃ m : Nat, n = .int .i64 (m : Int) ∧ pl ≤ m ∧ m ≤ ph + 1 ∧ b = .int .i64 ((z ||| (2 ^ m - 2 ^ pl) : Nat) : Int) ∧ Below w1.heap.size w1 wq) (fun n _ _ => ph + 1 - (intOf n).toNat)
            case atStart => exact ⟨pl, rfl, Nat.le_refl _, by omega, by simp, D3⟩
            case round =>
              obtain ⟨m, rfl, hm1, hm2, rfl, hbq⟩ := hrel
              have hzm : z ||| (2 ^ m - 2 ^ pl) < 2 ^ 16 := Nat.or_lt_two_pow hz' (by
                have : 2 ^ m ≤ 2 ^ 16 := Nat.pow_le_pow_right (by omega) (by omega)
                have := Nat.two_pow_pos pl
                have := Nat.two_pow_pos m
                omega)
              by_cases hmp : m ≤ ph
              · have HO : Hid (Go.bits .or .i64 ((z ||| (2 ^ m - 2 ^ pl) : Nat) : Int) (wrap64 (2 ^ m)) = ((z ||| (2 ^ (m + 1) - 2 ^ pl) : Nat) : Int)) := by
                  show _ = _
                  rw [or_bitR _ m hzm (by omega), Mt.or_step z pl m hm1]
                generalize z ||| (2 ^ m - 2 ^ pl) = zm at *
                go_wp2_with fail
                go_roundw
                case rel => exact ⟨m + 1, congrArg (Value.int .i64) (by omega), by omega, by omega, congrArg (Value.int .i64) HO.out, hbq⟩
                case measure => simp [intOf]; omega
              · obtain rfl : m = ph + 1 := by omega
                have HE : Hid ((z ||| (2 ^ (ph + 1) - 2 ^ pl)) = z ||| Mt.mask (pl, ph)) := rfl
                generalize z ||| (2 ^ (ph + 1) - 2 ^ pl) = zm at *
                go_wp2_with fail
                go_roundw
                case rel => exact ⟨k + 1, z ||| Mt.mask (pl, ph), congrArg (Value.int .i64) (by omega), by rw [HE.out], by omega, HL.out, HV.out.symm, hbq⟩
                case measure => simp [intOf]; omega
          · have HN : Hid (Mt.acc size 0 L = none) := by
              show _ = _
              rw [HQ.out, hrow]
            clear HQ hrow ca cb' DA DB D3 D2
            by_cases b1 : lo < 0
            · go_wp2_with fail
              go_ret
              exact ⟨by rw [HN.out]; rfl, DD⟩
            by_cases b2 : hi < 0
            · go_wp2_with fail
              go_ret
              exact ⟨by rw [HN.out]; rfl, DD⟩
            · have b3 : hi < lo := by omega
              go_wp2_with fail
              go_ret
              exact ⟨by rw [HN.out]; rfl, DD⟩
    · have HV : Hid (Mt.acc size 0 L = some z) := by
        show _ = _
        rw [← HA.out, List.drop_of_length_le (by omega), Mt.acc]
      have DD := D1.trans (hbw.mono D1.size)
      go_wp2_with fail
      go_ret
      exact ⟨by rw [HV.out]; rfl, DD⟩

set_option maxHeartbeats 1000000 in
theorem readRows_star (size : Nat) (hsz : size = 16 ∨ size = 8) (w : World) :
    Calls Tryz.prog 61 #[.string ⟨#[42]⟩, .int .i64 (size : Int)] w fun e w' => e = .returned (.int .i64 (optV (some (2 ^ size - 1)))) ∧ Below w.heap.size w w' := by
  rcases hsz with rfl | rfl
  all_goals
    go_enter Tryz.func61, Tryz.ntmps61
    go_wp2_with fail
    go_ret
    exact ⟨rfl, Below.refl _ _⟩
set_option maxHeartbeats 1000000 in
theorem readRows_dash (size : Nat) (w : World) :
    Calls Tryz.prog 61 #[.string ⟨#[45]⟩, .int .i64 (size : Int)] w fun e w' => e = .returned (.int .i64 (optV (some 0))) ∧ Below w.heap.size w w' := by
  go_enter Tryz.func61, Tryz.ntmps61
  go_wp2_with fail
  go_ret
  exact ⟨rfl, Below.refl _ _⟩
theorem readRows_any (s : ByteArray) (size : Nat) (w : World) (hsz : size = 16 ∨ size = 8) (hs : s.size ≤ 300) :
    Calls Tryz.prog 61 #[.string s, .int .i64 (size : Int)] w fun e w' => e = .returned (.int .i64 (optV (Mt.setP size s.data.toList))) ∧ Below w.heap.size w w' := by
  unfold Mt.setP
  by_cases h1 : s.data.toList = [42]
  · rw [if_pos h1, bytes_of s _ h1]
    exact readRows_star size hsz w
  · rw [if_neg h1]
    by_cases h2 : s.data.toList = [45]
    · rw [if_pos h2, bytes_of s _ h2]
      exact readRows_dash size w
    · rw [if_neg h2, ← Mt.pieces_spl]
      exact readRows_loop s size w hsz hs (by rw [Lib.toList_data]; simpa using h1) (by rw [Lib.toList_data]; simpa using h2)
end Go.Proofs.YtnkgjkoncglfjaaGreatDoor



namespace Go.Proofs.YtnkgjkoncglfjaaGreatDoor
open Go.RowKit

theorem Texts.four {w : World} {g : Nat} {p q r t : ByteArray} (h : Texts w g [p, q, r, t]) : w.cell? ⟨g, 0, none⟩ = some (.string p) ∧ w.cell? ⟨g, 1, none⟩ = some (.string q) ∧ w.cell? ⟨g, 2, none⟩ = some (.string r) ∧ w.cell? ⟨g, 3, none⟩ = some (.string t) :=
  ⟨h.2 0 p rfl, h.2 1 q rfl, h.2 2 r rfl, h.2 3 t rfl⟩
theorem Texts.drew {w : World} {g : Nat} {xs : List ByteArray} (h : Texts w g xs) : Texts w.drew g xs := h
theorem FourU.drew {w : World} {n : Nat} {a b c d : Value} (h : FourU w n a b c d) : FourU w.drew n a b c d := h

set_option maxHeartbeats 1000000 in
theorem rread_large (s : ByteArray) (w : World) (h : 300 < s.size) (hm : s.size ≤ maxLen) :
    Calls Tryz.prog 28 #[.string s] w fun e w' => e = .returned (matV ((0, 0, 0, 0), 2)) ∧ Below w.heap.size w w' := by
  unfold maxLen at hm
  have D0 := Below.alloc' (Below.refl w.heap.size w) (.cells #[.int .u16 0, .int .u16 0, .int .u8 0, .int .u8 0] 55)
  go_enter Tryz.func28, Tryz.ntmps28
  go_wp2_with fail
  exact bodyPost_ret (v := .tuple #[mt 0 0 0 0, .int .i64 2]) (by simp [results, Tryz.results28, go_sem]) rfl ⟨rfl, D0⟩

set_option maxHeartbeats 1000000 in
theorem rread_few (s : ByteArray) (w : World) (hs : s.size ≤ 300) (n : Nat) (hn : n ≠ 4)
    (SP : Hid (∀ w, Calls Tryz.prog 12 #[.string s, .int .u8 32] w fun e w' => ∃ g cap, e = .returned (.slice (some ⟨g, 0, none⟩) n cap) ∧ Below w.heap.size w w')) :
    Calls Tryz.prog 28 #[.string s] w fun e w' => e = .returned (matV ((0, 0, 0, 0), 3)) ∧ Below w.heap.size w w' := by
  have t : ((n : Int) != 4) = true := by simp; omega
  have B0 := fourU_new w (.int .u16 0) (.int .u16 0) (.int .u8 0) (.int .u8 0) 55
  have D0 := Below.alloc' (Below.refl w.heap.size w) (.cells #[.int .u16 0, .int .u16 0, .int .u8 0, .int .u8 0] 55)
  go_enter Tryz.func28, Tryz.ntmps28
  go_wp2_with fail
  refine (SP.out _).mono ?_
  rintro e w1 ⟨g, cap, rfl, hb⟩
  have B1 := keepFourU hb B0
  have D1 := chain hb D0
  clear B0 D0 hb
  obtain ⟨⟨l0, c0, c1, c2, c3⟩, f0, f1, f2, f3⟩ := B1
  go_wp2_with fail
  exact bodyPost_ret (v := .tuple #[mt 0 0 0 0, .int .i64 3]) (by simp [results, Tryz.results28, go_sem, c0, c1, c2, c3]) rfl ⟨rfl, below_set4 D1 (Nat.le_refl _) _ _ _ _⟩

theorem optV_neg (z : Nat) : decide (optV (some z) < 0) = false := decide_eq_false (by show ¬ ((z : Int) < 0); omega)

set_option maxHeartbeats 4000000 in
set_option maxRecDepth 100000 in
theorem rread_four (s : ByteArray) (w : World) (hs : s.size ≤ 300) (p q r t : ByteArray) (o1 o2 o3 o4 : Option Nat)
    (b1 : ∀ z, o1 = some z → z < 65536) (b2 : ∀ z, o2 = some z → z < 256) (b3 : ∀ z, o3 = some z → z < 65536) (b4 : ∀ z, o4 = some z → z < 256)
    (SP : Hid (∀ w, Calls Tryz.prog 12 #[.string s, .int .u8 32] w fun e w' => ∃ g cap, e = .returned (.slice (some ⟨g, 0, none⟩) 4 cap) ∧ 4 ≤ cap ∧ Texts w' g [p, q, r, t] ∧ Below w.heap.size w w'))
    (h1 : Hid (∀ w, Calls Tryz.prog 61 #[.string p, .int .i64 16] w fun e w' => e = .returned (.int .i64 (optV o1)) ∧ Below w.heap.size w w'))
    (h2 : Hid (∀ w, Calls Tryz.prog 61 #[.string q, .int .i64 8] w fun e w' => e = .returned (.int .i64 (optV o2)) ∧ Below w.heap.size w w'))
    (h3 : Hid (∀ w, Calls Tryz.prog 61 #[.string r, .int .i64 16] w fun e w' => e = .returned (.int .i64 (optV o3)) ∧ Below w.heap.size w w'))
    (h4 : Hid (∀ w, Calls Tryz.prog 61 #[.string t, .int .i64 8] w fun e w' => e = .returned (.int .i64 (optV o4)) ∧ Below w.heap.size w w')) :
    Calls Tryz.prog 28 #[.string s] w fun e w' => e = .returned (matV (four4 o1 o2 o3 o4)) ∧ Below w.heap.size w w' := by
  have B0 := fourU_new w (.int .u16 0) (.int .u16 0) (.int .u8 0) (.int .u8 0) 55
  have D0 := Below.alloc' (Below.refl w.heap.size w) (.cells #[.int .u16 0, .int .u16 0, .int .u8 0, .int .u8 0] 55)
  go_enter Tryz.func28, Tryz.ntmps28
  go_wp2_with fail
  refine (SP.out _).mono ?_
  rintro e w1 ⟨g, cap, rfl, hcap, T1, hb⟩
  have B1 := (keepFourU hb B0).drew
  have D1 := (chain hb D0).drew
  have T1d := T1.drew
  clear B0 D0 hb SP T1
  go_wp2_with fail
  go_region_held3 (fun w' => w'.cell? ⟨g, 0, none⟩ = some (.string p) ∧ w'.cell? ⟨g, 1, none⟩ = some (.string q) ∧ w'.cell? ⟨g, 2, none⟩ = some (.string r) ∧ w'.cell? ⟨g, 3, none⟩ = some (.string t)) (exact Texts.four (by assumption))
    (first
      | (go_at_call_of 61 (Value.string p); refine (h1.out _).mono ?_; rintro e wz ⟨rfl, hbz⟩; have Dz := chain hbz (by assumption); have Tz := keepTexts hbz (by assumption); have Fz := keepFourU hbz (by assumption); clear hbz)
      | (go_at_call_of 61 (Value.string q); refine (h2.out _).mono ?_; rintro e wz ⟨rfl, hbz⟩; have Dz := chain hbz (by assumption); have Tz := keepTexts hbz (by assumption); have Fz := keepFourU hbz (by assumption); clear hbz)
      | (go_at_call_of 61 (Value.string r); refine (h3.out _).mono ?_; rintro e wz ⟨rfl, hbz⟩; have Dz := chain hbz (by assumption); have Tz := keepTexts hbz (by assumption); have Fz := keepFourU hbz (by assumption); clear hbz)
      | (go_at_call_of 61 (Value.string t); refine (h4.out _).mono ?_; rintro e wz ⟨rfl, hbz⟩; have Dz := chain hbz (by assumption); have Tz := keepTexts hbz (by assumption); have Fz := keepFourU hbz (by assumption); clear hbz))
  obtain ⟨⟨l0, c0, c1, c2, c3⟩, f0, f1, f2, f3⟩ := Fz
  clear h1 h2 h3 h4
  rcases o1 with _ | z1
  · have t0 : decide (optV none < 0) = true := by decide
    go_wp2_with fail
    exact bodyPost_ret (v := .tuple #[mt 0 0 0 0, .int .i64 3]) (by simp [results, Tryz.results28, go_sem, c0, c1, c2, c3]) rfl ⟨rfl, below_set4 Dz (Nat.le_refl _) _ _ _ _⟩
  have t1 := optV_neg z1
  rcases o2 with _ | z2
  · have t0 : decide (optV none < 0) = true := by decide
    go_wp2_with fail
    exact bodyPost_ret (v := .tuple #[mt 0 0 0 0, .int .i64 3]) (by simp [results, Tryz.results28, go_sem, c0, c1, c2, c3]) rfl ⟨rfl, below_set4 Dz (Nat.le_refl _) _ _ _ _⟩
  have t2 := optV_neg z2
  rcases o3 with _ | z3
  · have t0 : decide (optV none < 0) = true := by decide
    go_wp2_with fail
    exact bodyPost_ret (v := .tuple #[mt 0 0 0 0, .int .i64 3]) (by simp [results, Tryz.results28, go_sem, c0, c1, c2, c3]) rfl ⟨rfl, below_set4 Dz (Nat.le_refl _) _ _ _ _⟩
  have t3 := optV_neg z3
  rcases o4 with _ | z4
  · have t0 : decide (optV none < 0) = true := by decide
    go_wp2_with fail
    exact bodyPost_ret (v := .tuple #[mt 0 0 0 0, .int .i64 3]) (by simp [results, Tryz.results28, go_sem, c0, c1, c2, c3]) rfl ⟨rfl, below_set4 Dz (Nat.le_refl _) _ _ _ _⟩
  have t4 := optV_neg z4
  have g1 : optV (some z1) < 65536 := by have := b1 z1 rfl; simp only [optV]; omega
  have g2 : optV (some z2) < 256 := by have := b2 z2 rfl; simp only [optV]; omega
  have g3 : optV (some z3) < 65536 := by have := b3 z3 rfl; simp only [optV]; omega
  have g4 : optV (some z4) < 256 := by have := b4 z4 rfl; simp only [optV]; omega
  have k1 : 0 ≤ optV (some z1) := by simp only [optV]; omega
  have k2 : 0 ≤ optV (some z2) := by simp only [optV]; omega
  have k3 : 0 ≤ optV (some z3) := by simp only [optV]; omega
  have k4 : 0 ≤ optV (some z4) := by simp only [optV]; omega
  clear b1 b2 b3 b4
  go_wp2_with fail
  exact bodyPost_ret (v := .tuple #[mt z1 z3 z2 z4, .int .i64 0]) (by simp [results, Tryz.results28, go_sem, c0, c1, c2, c3]; exact ⟨rfl, rfl, rfl, rfl⟩) rfl ⟨rfl, below_set4 Dz (Nat.le_refl _) _ _ _ _⟩

theorem rread_any (s : ByteArray) (w : World) (hm : s.size ≤ maxLen) :
    Calls Tryz.prog 28 #[.string s] w fun e w' => e = .returned (matV (Mt.matP s.data.toList)) ∧ Below w.heap.size w w' := by
  have hl : s.data.toList.length = s.size := (Lib.size_eq s).symm
  unfold Mt.matP
  by_cases h : 300 < s.size
  · rw [if_pos (by omega)]
    exact rread_large s w h hm
  · rw [if_neg (by omega)]
    have hL1 := Pk.pieces_len 32 s.data.toList
    have hcl := List.count_le_length (a := (32 : UInt8)) (l := s.data.toList)
    have SF : ∀ w, Calls Tryz.prog 12 #[.string s, .int .u8 32] w fun e w' => ∃ g cap, e = .returned (.slice (some ⟨g, 0, none⟩) (Mt.spl 32 s.data.toList).length cap) ∧ (Mt.spl 32 s.data.toList).length ≤ cap ∧ Texts w' g (txts (Mt.spl 32 s.data.toList)) ∧ Below w.heap.size w w' := fun w => by
      refine (pieces_any s 32 w (by omega)).mono fun e w' ⟨v, he, ho, hb⟩ => ?_
      rw [Mt.pieces_spl] at ho hL1
      obtain ⟨m, hmm⟩ : ∃ m, (Mt.spl 32 s.data.toList).length = m + 1 := ⟨(Mt.spl 32 s.data.toList).length - 1, by omega⟩
      have ho' := ho
      rw [hmm] at ho'
      obtain ⟨g, cap, rfl, hg, hcap⟩ := own_shape ho'
      rw [← hmm] at ho'
      refine ⟨g, cap, by rw [he, hmm], by omega, ⟨own_lt ho', fun j x hx => ?_⟩, hb⟩
      unfold txts at hx
      rw [List.getElem?_map] at hx
      cases hq : (Mt.spl 32 s.data.toList)[j]? with
      | none => rw [hq] at hx; cases hx
      | some y =>
        rw [hq] at hx
        simp only [Option.map_some, Option.some.injEq] at hx
        rw [← hx]
        exact own_cellR ho' rfl hq
    rw [Mt.pieces_spl] at hL1
    have hsl := spl_len 32 s.data.toList
    generalize Mt.spl 32 s.data.toList = L at *
    have FEW : L.length ≠ 4 → Calls Tryz.prog 28 #[.string s] w fun e w' => e = .returned (matV ((0, 0, 0, 0), 3)) ∧ Below w.heap.size w w' := fun hne =>
      rread_few s w (by omega) L.length hne (fun w => (SF w).mono fun e w' ⟨g, cap, h1, _, _, h2⟩ => ⟨g, cap, h1, h2⟩)
    match L, SF, hsl, FEW with
    | [p, q, r, t], SF, hsl, _ =>
      have sz : ∀ x : List UInt8, x.length ≤ s.data.toList.length → (⟨x.toArray⟩ : ByteArray).size ≤ 300 := fun x hx => by
        rw [Lib.size_eq]; simp; omega
      have hp := sz p (hsl p (by simp))
      have hq := sz q (hsl q (by simp))
      have hr := sz r (hsl r (by simp))
      have ht := sz t (hsl t (by simp))
      have H := rread_four s w (by omega) ⟨p.toArray⟩ ⟨q.toArray⟩ ⟨r.toArray⟩ ⟨t.toArray⟩ (Mt.setP 16 p) (Mt.setP 8 q) (Mt.setP 16 r) (Mt.setP 8 t) (fun z hz => Mt.setP_lt 16 _ z hz) (fun z hz => Mt.setP_lt 8 _ z hz) (fun z hz => Mt.setP_lt 16 _ z hz) (fun z hz => Mt.setP_lt 8 _ z hz) (fun w => SF w)
        (fun w => readRows_any ⟨p.toArray⟩ 16 w (Or.inl rfl) hp) (fun w => readRows_any ⟨q.toArray⟩ 8 w (Or.inr rfl) hq)
        (fun w => readRows_any ⟨r.toArray⟩ 16 w (Or.inl rfl) hr) (fun w => readRows_any ⟨t.toArray⟩ 8 w (Or.inr rfl) ht)
      simp only []
      generalize Mt.setP 16 p = o1 at H ⊢
      generalize Mt.setP 8 q = o2 at H ⊢
      generalize Mt.setP 16 r = o3 at H ⊢
      generalize Mt.setP 8 t = o4 at H ⊢
      cases o1 <;> cases o2 <;> cases o3 <;> cases o4 <;> exact H
    | [], _, _, F => exact F (by simp)
    | [_], _, _, F => exact F (by simp)
    | [_, _], _, _, F => exact F (by simp)
    | [_, _, _], _, _, F => exact F (by simp)
    | _ :: _ :: _ :: _ :: _ :: _, _, _, F => exact F (by simp)
end Go.Proofs.YtnkgjkoncglfjaaGreatDoor



namespace Go.Proofs.YtnkgjkoncglfjaaGreatDoor
open Go.RowKit

theorem rhas_eq (b : Nat) (n : Nat) : (((b : Int) / 2 ^ n).tmod 2 == 1) = b.testBit n := by
  rw [Nat.testBit, Nat.one_and_eq_mod_two, show ((b : Int) / 2 ^ n) = ((b >>> n : Nat) : Int) by rw [Nat.shiftRight_eq_div_pow]; simp]
  have e : (((b >>> n : Nat) : Int).tmod 2) = (((b >>> n) % 2 : Nat) : Int) := rfl
  rw [e]
  have : (b >>> n) % 2 = 0 ∨ (b >>> n) % 2 = 1 := by omega
  rcases this with h | h <;> rw [h] <;> rfl

set_option maxHeartbeats 400000 in
theorem rhas_any (b : Nat) (n : Int) (w : World) (h1 : b < 65536) :
    Calls Tryz.prog 33 #[.int .i64 (b : Int), .int .i64 n] w fun e w' => e = .returned (.bool (hasB b n)) ∧ w' = w := by
  by_cases hn : 0 ≤ n ∧ n ≤ 15
  · obtain ⟨k, rfl⟩ : ∃ k : Nat, n = k := ⟨n.toNat, by omega⟩
    have he : Hid ((((b : Int) / 2 ^ k).tmod 2 == 1) = hasB b k) := by
      show _ = _
      rw [rhas_eq, hasB_nat]
    have IN : Hid (∀ w, Calls Tryz.prog 34 #[.int .i64 (k : Int), .int .i64 0, .int .i64 15] w fun e w' => e = .returned (.bool true) ∧ w' = w) := fun w => in_yes _ _ _ w hn.1 hn.2
    have hk : (k : Int) ≤ 64 := by omega
    clear hn
    go_enter Tryz.func33, Tryz.ntmps33
    go_wp2_with fail
    refine (IN.out _).mono ?_
    rintro e w' ⟨rfl, rfl⟩
    go_wp2_with fail
    go_ret
    refine ⟨?_, rfl⟩
    rw [← he.out]
    simp
  · have e : hasB b n = false := by
      unfold hasB
      by_cases h0 : 0 ≤ n
      · have : 16 ≤ n.toNat := by omega
        rw [Nat.testBit_lt_two_pow (Nat.lt_of_lt_of_le (show b < 2 ^ 16 by omega) (Nat.pow_le_pow_right (by omega) this)), Bool.and_false]
      · simp [h0]
    rw [e]
    have IN : Hid (∀ w, Calls Tryz.prog 34 #[.int .i64 n, .int .i64 0, .int .i64 15] w fun e w' => e = .returned (.bool false) ∧ w' = w) := fun w => in_no _ _ _ w hn
    clear hn e
    go_enter Tryz.func33, Tryz.ntmps33
    go_wp2_with fail
    refine (IN.out _).mono ?_
    rintro e w' ⟨rfl, rfl⟩
    go_wp2_with fail
    go_ret
    exact ⟨rfl, rfl⟩

theorem join_snoc (l : List (List UInt8)) (x sep : List UInt8) (h : l ≠ []) : Lib.join (l ++ [x]) sep = Lib.join l sep ++ sep ++ x := by
  cases l with
  | nil => exact absurd rfl h
  | cons y r =>
    rw [List.cons_append, Lib.join_cons, Lib.join_cons]
    simp [Lib.joinTail]
theorem cat_two (a b : List UInt8) : ((⟨a.toArray⟩ : ByteArray) ++ (⟨b.toArray⟩ : ByteArray)) = ⟨(a ++ b).toArray⟩ := by
  apply ByteArray.ext
  rw [ByteArray.data_append]
  simp

set_option maxHeartbeats 2000000 in
theorem joined_any (L : List (List UInt8)) (g cap : Nat) (w : World) (hl : L.length ≤ 16) (hlen : ∀ k, (Lib.join (L.take k) [44]).length ≤ 200)
    (hc : ∀ (j : Nat) x, L[j]? = some x → w.cell? ⟨g, j, none⟩ = some (.string ⟨x.toArray⟩)) (hx : ∀ x ∈ L, x.length ≤ 5) (_hcap : L.length ≤ cap) :
    Calls Tryz.prog 29 #[.slice (some ⟨g, 0, none⟩) L.length cap, .string ⟨#[44]⟩] w fun e w' => e = .returned (.string ⟨(Lib.join L [44]).toArray⟩) ∧ w' = w := by
  have HC : Hid (∀ (j : Nat) x, L[j]? = some x → w.cell? ⟨g, j, none⟩ = some (.string ⟨x.toArray⟩)) := hc
  have HL : Hid (∀ k, (Lib.join (L.take k) [44]).length ≤ 200) := hlen
  have HX : Hid (∀ x ∈ L, x.length ≤ 5) := hx
  clear hc hlen hx
  go_enter Tryz.func29, Tryz.ntmps29
  go_wp2_with fail
  go_loopw [6, 5] (fun i o wr => ∃ k : Nat, i = .int .i64 (k : Int) ∧ k ≤ L.length ∧ o = .string ⟨(Lib.join (L.take k) [44]).toArray⟩ ∧ wr = w) (fun i _ _ => L.length - (intOf i).toNat)
  case atStart => exact ⟨0, rfl, Nat.zero_le _, rfl, rfl⟩
  case round =>
    obtain ⟨k, rfl, hk, rfl, rfl⟩ := hrel
    have hj := HL.out k
    by_cases hlt : k < L.length
    · obtain ⟨x, hxk⟩ : ∃ x, L[k]? = some x := ⟨L[k], List.getElem?_eq_getElem hlt⟩
      have cx := HC.out k x hxk
      have lx := HX.out x (List.mem_of_getElem? hxk)
      have htk : L.take (k + 1) = L.take k ++ [x] := by rw [List.take_add_one, hxk]; rfl
      by_cases h0 : k = 0
      · subst h0
        have HE : Hid ((⟨(Lib.join (L.take 0) [44]).toArray⟩ : ByteArray) ++ (⟨x.toArray⟩ : ByteArray) = ⟨(Lib.join (L.take (0 + 1)) [44]).toArray⟩) := by
          show _ = _
          rw [cat_two, htk]
          simp [Lib.join_nil, Lib.join_one]
        generalize Lib.join (L.take 0) [44] = J at *
        clear htk hxk
        go_wp2_with fail
        go_roundw
        case rel => exact ⟨0 + 1, congrArg (Value.int .i64) (by omega), by omega, congrArg Value.string HE.out, (by first | rfl | trivial)⟩
        case measure => simp [intOf]; omega
      · have HE : Hid ((⟨(Lib.join (L.take k) [44]).toArray⟩ : ByteArray) ++ (⟨#[44]⟩ : ByteArray) ++ (⟨x.toArray⟩ : ByteArray) = ⟨(Lib.join (L.take (k + 1)) [44]).toArray⟩) := by
          show _ = _
          have e44 : (⟨#[44]⟩ : ByteArray) = ⟨([44] : List UInt8).toArray⟩ := rfl
          rw [e44, cat_two, cat_two, htk, join_snoc _ _ _ (by
            intro e
            have := congrArg List.length e
            rw [List.length_take, List.length_nil] at this
            omega)]
        have t0 : decide ((0 : Int) < (k : Int)) = true := by simp; omega
        generalize Lib.join (L.take k) [44] = J at *
        clear htk hxk
        go_wp2_with fail
        go_roundw
        case rel => exact ⟨k + 1, congrArg (Value.int .i64) (by omega), by omega, congrArg Value.string HE.out, (by first | rfl | trivial)⟩
        case measure => simp [intOf]; omega
    · have HE : Hid (L.take k = L) := List.take_of_length_le (by omega)
      rw [HE.out]
      go_wp2_with fail
      go_ret
      exact ⟨rfl, rfl⟩
end Go.Proofs.YtnkgjkoncglfjaaGreatDoor



namespace Go.Proofs.YtnkgjkoncglfjaaGreatDoor
open Go.RowKit

/-- What Pieces tells. -/
def PcOut (w : World) (c : UInt8) (s : ByteArray) (e : Ending) (w' : World) : Prop :=
  ∃ (g cap : Nat) (cs : Array Value) (ws : List ByteArray), e = .returned (.slice (some ⟨g, 0, none⟩) ws.length cap) ∧ ws.length ≤ cap ∧ cap ≤ maxLen ∧ 0 < ws.length ∧ ws.length ≤ 4097 ∧ Hid (ws.map (·.data.toList) = Mt.spl c s.data.toList) ∧ Hid (∀ x ∈ ws, x.size ≤ s.size) ∧ w.heap.size ≤ g ∧ Wds w' g cs ws ∧ Below w.heap.size w w'
theorem words_any (s : ByteArray) (c : UInt8) (w : World) (hs : s.size ≤ 4096) : Calls Tryz.prog 12 #[.string s, .int .u8 (c.toNat : Int)] w fun e w' => PcOut w c s e w' := by
  refine (pieces_any s c w (by omega)).mono ?_
  rintro e w' ⟨v, rfl, ho, hb⟩
  rw [Mt.pieces_spl] at ho
  have hl := spl_count c s.data.toList
  rw [← Lib.size_eq] at hl
  obtain ⟨h, t, e0⟩ := Mt.spl_ne c s.data.toList
  have hlen : (txts (Mt.spl c s.data.toList)).length = (Mt.spl c s.data.toList).length := by unfold txts; simp
  have hpos : 0 < (Mt.spl c s.data.toList).length := by rw [e0]; simp
  rcases ho.2 with ⟨_, h0⟩ | ⟨g, cap, cur, rfl, hg, hh, hn, hcap, hsz, ht⟩
  · omega
  refine ⟨g, cap, cur, txts (Mt.spl c s.data.toList), by rw [hlen], by rw [hlen]; exact hn, hcap, by rw [hlen]; exact hpos, by rw [hlen]; omega, ?_, ?_, hg, ⟨hh, fun j x hj => ?_⟩, hb⟩
  · show _ = _
    unfold txts
    rw [List.map_map]
    have : ((fun x : ByteArray => x.data.toList) ∘ fun p : List UInt8 => (⟨p.toArray⟩ : ByteArray)) = id := by funext p; simp
    rw [this, List.map_id]
  · intro x hx
    unfold txts at hx
    obtain ⟨p, hp, rfl⟩ := List.mem_map.1 hx
    have := spl_len c s.data.toList p hp
    rw [← Lib.size_eq] at this
    rw [Lib.size_eq]
    simpa using this
  · unfold txts at hj
    rw [List.getElem?_map] at hj
    obtain ⟨p, hp, rfl⟩ := Option.map_eq_some_iff.1 hj
    have h1 : (strs (Mt.spl c s.data.toList))[j]? = some (.string ⟨p.toArray⟩) := by
      unfold strs
      rw [List.getElem?_map, hp]
      rfl
    rw [← ht, List.getElem?_take] at h1
    split at h1
    · simpa using h1
    · cases h1
set_option maxHeartbeats 1000000 in
theorem joined_nil (A : Option Addr) (k : Nat) (w : World) : Calls Tryz.prog 29 #[.slice A 0 k, .string ⟨#[32]⟩] w fun e w' => e = .returned (.string ⟨#[]⟩) ∧ w' = w := by
  go_enter Tryz.func29, Tryz.ntmps29
  go_wp2_with fail
  go_loopw [6, 5] (fun i z wr => i = .int .i64 0 ∧ z = .string ⟨#[]⟩ ∧ wr = w) (fun _ _ _ => 0)
  case atStart => exact ⟨rfl, rfl, rfl⟩
  case round =>
    obtain ⟨rfl, rfl, rfl⟩ := hrel
    go_wp2_with fail
    go_ret
    exact ⟨rfl, rfl⟩
theorem join_take_le (sep : List UInt8) (L : List (List UInt8)) : ∀ k, (Lib.join (L.take k) sep).length ≤ (Lib.join L sep).length := by
  have tl : ∀ (r : List (List UInt8)) (k : Nat), (Lib.joinTail sep (r.take k)).length ≤ (Lib.joinTail sep r).length := by
    intro r
    induction r with
    | nil => intro k; simp [Lib.joinTail]
    | cons x r ih =>
      intro k
      cases k with
      | zero => simp [Lib.joinTail]
      | succ k =>
        have := ih k
        simp [Lib.joinTail] at this ⊢
        omega
  intro k
  cases L with
  | nil => simp
  | cons x r =>
    cases k with
    | zero => simp [Lib.join_nil]
    | succ k =>
      rw [List.take_succ_cons, Lib.join_cons, Lib.join_cons]
      have := tl r k
      simp at this ⊢
      omega
set_option maxHeartbeats 2000000 in
theorem joined_wide (L : List (List UInt8)) (g o cap : Nat) (w : World) (hl : L.length ≤ 5000) (hlen : (Lib.join L [32]).length ≤ 1000000)
    (hc : ∀ (j : Nat) x, L[j]? = some x → w.cell? ⟨g, o + j, none⟩ = some (.string ⟨x.toArray⟩)) (hx : ∀ x ∈ L, x.length ≤ 5000) (_hcap : L.length ≤ cap) :
    Calls Tryz.prog 29 #[.slice (some ⟨g, o, none⟩) L.length cap, .string ⟨#[32]⟩] w fun e w' => e = .returned (.string ⟨(Lib.join L [32]).toArray⟩) ∧ w' = w := by
  have HC : Hid (∀ (j : Nat) x, L[j]? = some x → w.cell? ⟨g, o + j, none⟩ = some (.string ⟨x.toArray⟩)) := hc
  have HL : Hid (∀ k, (Lib.join (L.take k) [32]).length ≤ 1000000) := fun k => Nat.le_trans (join_take_le [32] L k) hlen
  have HX : Hid (∀ x ∈ L, x.length ≤ 5000) := hx
  clear hc hlen hx
  go_enter Tryz.func29, Tryz.ntmps29
  go_wp2_with fail
  go_loopw [6, 5] (fun i z wr => ∃ k : Nat, i = .int .i64 (k : Int) ∧ k ≤ L.length ∧ z = .string ⟨(Lib.join (L.take k) [32]).toArray⟩ ∧ wr = w) (fun i _ _ => L.length - (intOf i).toNat)
  case atStart => exact ⟨0, rfl, Nat.zero_le _, rfl, rfl⟩
  case round =>
    obtain ⟨k, rfl, hk, rfl, rfl⟩ := hrel
    have hj := HL.out k
    by_cases hlt : k < L.length
    · obtain ⟨x, hxk⟩ : ∃ x, L[k]? = some x := ⟨L[k], List.getElem?_eq_getElem hlt⟩
      have cx := HC.out k x hxk
      have lx := HX.out x (List.mem_of_getElem? hxk)
      have htk : L.take (k + 1) = L.take k ++ [x] := by rw [List.take_add_one, hxk]; rfl
      by_cases h0 : k = 0
      · subst h0
        rw [Nat.add_zero] at cx
        have HE : Hid ((⟨(Lib.join (L.take 0) [32]).toArray⟩ : ByteArray) ++ (⟨x.toArray⟩ : ByteArray) = ⟨(Lib.join (L.take (0 + 1)) [32]).toArray⟩) := by
          show _ = _
          rw [cat_two, htk]
          simp [Lib.join_nil, Lib.join_one]
        generalize Lib.join (L.take 0) [32] = J at *
        clear htk hxk
        go_wp2_with fail
        go_roundw
        case rel => exact ⟨0 + 1, congrArg (Value.int .i64) (by omega), by omega, congrArg Value.string HE.out, (by first | rfl | trivial)⟩
        case measure => simp [intOf]; omega
      · have HE : Hid ((⟨(Lib.join (L.take k) [32]).toArray⟩ : ByteArray) ++ (⟨#[32]⟩ : ByteArray) ++ (⟨x.toArray⟩ : ByteArray) = ⟨(Lib.join (L.take (k + 1)) [32]).toArray⟩) := by
          show _ = _
          have e44 : (⟨#[32]⟩ : ByteArray) = ⟨([32] : List UInt8).toArray⟩ := rfl
          rw [e44, cat_two, cat_two, htk, join_snoc _ _ _ (by
            intro e
            have := congrArg List.length e
            rw [List.length_take, List.length_nil] at this
            omega)]
        have t0 : decide ((0 : Int) < (k : Int)) = true := by simp; omega
        generalize Lib.join (L.take k) [32] = J at *
        clear htk hxk
        go_wp2_with fail
        go_roundw
        case rel => exact ⟨k + 1, congrArg (Value.int .i64) (by omega), by omega, congrArg Value.string HE.out, (by first | rfl | trivial)⟩
        case measure => simp [intOf]; omega
    · have HE : Hid (L.take k = L) := List.take_of_length_le (by omega)
      rw [HE.out]
      go_wp2_with fail
      go_ret
      exact ⟨rfl, rfl⟩
/-- What a list of numbers is told as, by the document. -/
def NumsR (w : World) (o : Option (List Int)) (e : Ending) (w' : World) : Prop :=
  Below w.heap.size w w' ∧ match o with
    | none => e = .returned (.slice none 0 0)
    | some l => l.length ≤ 4097 ∧ l ≠ [] ∧ (∀ x ∈ l, 0 ≤ x ∧ x < 100) ∧ ∃ v, e = .returned v ∧ w'.ownsRow w.heap.size 3 1 v l.length (intsC l)
set_option maxHeartbeats 4000000 in
set_option maxRecDepth 100000 in
theorem readCommas_any (s : ByteArray) (w : World) (hs : s.size ≤ 4096) :
    Calls Tryz.prog 32 #[.string s] w fun e w' => NumsR w (pnums s.data.toList) e w' := by
  have SP : Hid (∀ w, Calls Tryz.prog 12 #[.string s, .int .u8 44] w fun e w' => PcOut w 44 s e w') := fun w => words_any s 44 w hs
  have DG : Hid (∀ (x : ByteArray) w, x.size ≤ 4096 → Calls Tryz.prog 30 #[.string x, .int .i64 99] w fun e w' => e = .returned (.int .i64 (Pk.dg 99 x.data.toList)) ∧ w' = w) := fun x w h => digits_any x 99 w (by unfold maxLen; omega)
  go_enter Tryz.func32, Tryz.ntmps32
  go_wp2_with fail
  refine (SP.out _).mono ?_
  rintro e w1 ⟨g, cap, cs, xs, rfl, hcap, hcm, hpos, hl, hx, HP, hg, T1, D1⟩
  unfold maxLen at hcm
  have PS : Hid (pnums s.data.toList = pnumsL (xs.map (·.data.toList))) := by show _ = _; unfold pnums; rw [hx.out]
  clear hx SP hg
  go_wp2_with fail
  go_loopw [3, 5] (fun v i wr => ∃ (k : Nat) (l : List Int), i = .int .i64 (k : Int) ∧ k ≤ xs.length ∧ l.length = k ∧ Hid (∀ x ∈ l, 0 ≤ x ∧ x < 100) ∧ Hid (pnumsL (xs.map (·.data.toList)) = (pnumsL ((xs.map (·.data.toList)).drop k)).map (l ++ ·)) ∧ wr.ownsRow w1.heap.size 3 1 v l.length (intsC l) ∧ Below w1.heap.size w1 wr) (fun _ i _ => xs.length - (intOf i).toNat)
  case atStart => exact ⟨0, [], rfl, Nat.zero_le _, rfl, (by intro x hx; cases hx), by show _ = _; rw [List.drop_zero]; cases pnumsL (xs.map (·.data.toList)) <;> simp, ⟨rfl, .inl ⟨rfl, rfl⟩⟩, Below.refl _ _⟩
  case round =>
    obtain ⟨k, l, rfl, hk, hlk, HB, HA, O1, hbw⟩ := hrel
    have D2 := D1.trans (hbw.mono D1.size)
    by_cases hlt : k < xs.length
    · obtain ⟨x, hxk⟩ : ∃ x, xs[k]? = some x := ⟨xs[k], List.getElem?_eq_getElem hlt⟩
      have hc := (T1.below hbw).cell k x hxk
      have hdrop : (xs.map (·.data.toList)).drop k = x.data.toList :: (xs.map (·.data.toList)).drop (k + 1) := by
        rw [List.drop_eq_getElem_cons (by simpa using hlt)]
        congr 1
        rw [List.getElem_map]
        rw [List.getElem?_eq_getElem hlt] at hxk
        rw [Option.some.inj hxk]
      have PN := fun w => DG.out x w (by have := HP.out x (List.mem_of_getElem? hxk); omega)
      rcases ho : pnum x.data.toList with _ | n
      · have HV : Hid (pnumsL (xs.map (·.data.toList)) = none) := by
          show _ = _
          rw [HA.out, hdrop, pnumsL_no ho]
          rfl
        have PR : Hid (∀ w, Calls Tryz.prog 30 #[.string x, .int .i64 99] w fun e w' => e = .returned (.int .i64 (-1)) ∧ w' = w) := fun w => by
          have := PN w
          rw [pnum_none ho] at this
          exact this
        clear PN ho hdrop HA HP T1 hlk O1 DG HB
        go_wp2_with fail
        refine (PR.out _).mono ?_
        rintro e w2 ⟨rfl, rfl⟩
        go_wp2_with fail
        go_ret
        rw [PS.out, HV.out]
        exact ⟨D2, rfl⟩
      · obtain ⟨hn1, hn2, hn3⟩ := pnum_some ho
        have HV : Hid (pnumsL (xs.map (·.data.toList)) = (pnumsL ((xs.map (·.data.toList)).drop (k + 1))).map ((l ++ [n]) ++ ·)) := by
          show _ = _
          rw [HA.out, hdrop, pnumsL_yes ho, Option.map_map]
          congr 1
          funext r
          simp
        have HB2 : Hid (∀ x ∈ l ++ [n], 0 ≤ x ∧ x < 100) := fun y hy => by
          rcases List.mem_append.1 hy with hy | hy
          · exact HB.out y hy
          · obtain rfl := List.mem_singleton.1 hy
            exact ⟨hn2, hn3⟩
        have PR : Hid (∀ w, Calls Tryz.prog 30 #[.string x, .int .i64 99] w fun e w' => e = .returned (.int .i64 n) ∧ w' = w) := fun w => by
          have := PN w
          rw [hn1] at this
          exact this
        obtain ⟨v2, w2, r2, O2, hb2⟩ := app_wide (t := 46) (e := 3) Tryz.underlying46 Tryz.infoIntN rfl (by omega) 46 O1 (u := .int .i64 n) rfl (by omega) hbw.size
        have O3 : w2.ownsRow w1.heap.size 3 1 v2 (l ++ [n]).length (intsC (l ++ [n])) := by
          have e : (l ++ [n]).length = l.length + 1 := by simp
          rw [e]
          have e2 : intsC (l ++ [n]) = intsC l ++ [.int .i64 n] := by simp [intsC]
          rw [e2]
          exact O2
        have hb3 := hbw.trans hb2
        have hnn : decide (n < 0) = false := by simp; omega
        clear PN ho hdrop HA HP T1 O1 O2 hbw hb2 D2 DG HB hn1
        go_wp2_with fail
        refine (PR.out _).mono ?_
        rintro e w3 ⟨rfl, rfl⟩
        go_wp2_with fail
        refine (PR.out _).mono ?_
        rintro e w4 ⟨rfl, rfl⟩
        go_wp2_with (at_builtin; refine append_run2 rfl _ _ 46 rfl rfl rfl r2 ?_)
        go_roundw
        case rel => first | exact ⟨k + 1, l ++ [n], by go_num, by omega, by simp [hlk], HB2, HV, O3, hb3⟩ | ((repeat apply Exists.intro); exact ⟨⟨k + 1, l ++ [n], by go_num, by omega, by simp [hlk], HB2, HV, O3, hb3⟩, rfl⟩)
        case measure => simp [intOf]; omega
    · have HV : Hid (pnumsL (xs.map (·.data.toList)) = some l) := by
        show _ = _
        rw [HA.out, List.drop_of_length_le (by simp; omega), pnumsL]
        simp
      have HNE : Hid (l ≠ []) := fun e => by rw [e] at hlk; simp at hlk; omega
      clear HA HP T1 DG
      go_wp2_with fail
      go_ret
      rw [PS.out, HV.out]
      exact ⟨D2, by omega, HNE.out, HB.out, _, rfl, own_mono O1 D1.size⟩
end Go.Proofs.YtnkgjkoncglfjaaGreatDoor
