/-
  The document's answer: In, Digits, Pieces.
-/
import Derived.Test.YtejefincnjhlpaaDoorM5
namespace Go.Proofs.YtejefincnjhlpaaDoor
open Go.RowKit

set_option maxHeartbeats 400000 in
theorem in_yes (n lo hi : Int) (w : World) (h0 : lo ≤ n) (h1 : n ≤ hi) : Calls Tryd.prog 24 #[.int .i64 n, .int .i64 lo, .int .i64 hi] w fun e w' => e = .returned (.bool true) ∧ w' = w := by
  go_enter Tryd.func24, Tryd.ntmps24
  go_wp2
  go_ret
  exact ⟨rfl, rfl⟩
set_option maxHeartbeats 400000 in
theorem in_no (n lo hi : Int) (w : World) (h : ¬ (lo ≤ n ∧ n ≤ hi)) : Calls Tryd.prog 24 #[.int .i64 n, .int .i64 lo, .int .i64 hi] w fun e w' => e = .returned (.bool false) ∧ w' = w := by
  by_cases h0 : lo ≤ n
  · have h1 : ¬ n ≤ hi := fun e => h ⟨h0, e⟩
    clear h
    go_enter Tryd.func24, Tryd.ntmps24
    go_wp2
    go_ret
    exact ⟨rfl, rfl⟩
  · clear h
    go_enter Tryd.func24, Tryd.ntmps24
    go_wp2
    go_ret
    exact ⟨rfl, rfl⟩


theorem head48 (s : ByteArray) (h : 0 < s.size) : s.data.toList.head? = some 48 ↔ (s[0].toNat : Int) = 48 := by
  rw [head_of s h]
  constructor
  · intro e
    have := Option.some.inj e
    rw [this]; rfl
  · intro e
    congr 1
    apply UInt8.toNat_inj.1
    have e2 : s[0].toNat = 48 := by omega
    rw [e2]; rfl

set_option maxHeartbeats 2000000 in
theorem digits_any (s : ByteArray) (most : Int) (w : World) (hm : s.size ≤ maxLen) :
    Calls Tryd.prog 30 #[.string s, .int .i64 most] w fun e w' => e = .returned (.int .i64 (Pk.dg most s.data.toList)) ∧ w' = w := by
  have hl : Hid (s.data.toList.length = s.size) := (Lib.size_eq s).symm
  unfold maxLen at hm
  go_enter Tryd.func30, Tryd.ntmps30
  go_wp2
  go_loop [5, 6] (fun a i => ∃ k n : Nat, k ≤ s.size ∧ k ≤ 5 ∧ i = .int .i64 k ∧ a = .int .i64 n ∧ n < 10 ^ k ∧ Pk.digs n (s.data.toList.drop k) = Pk.digs 0 s.data.toList) (fun _ i => s.size - (intOf i).toNat)
  case atStart => exact ⟨0, 0, by omega, by omega, rfl, rfl, by simp, by simp⟩
  case round =>
    obtain ⟨k, n, hk, hk5, rfl, rfl, hn, hd⟩ := hrel
    have HD : Hid (Pk.digs n (s.data.toList.drop k) = Pk.digs 0 s.data.toList) := hd
    clear hd
    by_cases hlt : k < s.size
    · by_cases hlt5 : k < 5
      · have hp : 10 ^ k ≤ 10 ^ 4 := Nat.pow_le_pow_right (by omega) (by omega)
        have hn2 : n ≤ 9999 := by omega
        have HN : Hid (n < 10 ^ k) := hn
        clear hn hp
        by_cases hlo : 48 ≤ (s[k].toNat : Int)
        · by_cases hhi : (s[k].toNat : Int) ≤ 57
          · have S : Hid (Pk.digs n (s.data.toList.drop k) = Pk.digs (10 * n + (s[k].toNat - 48)) (s.data.toList.drop (k + 1))) := digs_step s n k hlt hlo hhi
            go_wp2
            go_round
            case rel => exact ⟨k + 1, 10 * n + (s[k].toNat - 48), by omega, by omega, congrArg (Value.int .i64) (by omega), congrArg (Value.int .i64) (by omega), by have := HN.out; rw [Nat.pow_succ]; omega, S.out.symm.trans HD.out⟩
            case measure => simp [intOf]; omega
          · go_wp2
            go_ret
            rw [Pk.dg_stop most _ (by rw [← HD.out, digs_stop s n k hlt (Or.inr (by omega))])]
            exact ⟨rfl, rfl⟩
        · go_wp2
          go_ret
          rw [Pk.dg_stop most _ (by rw [← HD.out, digs_stop s n k hlt (Or.inl (by omega))])]
          exact ⟨rfl, rfl⟩
      · go_wp2_with fail
        refine (in_no _ _ _ _ (by omega)).mono ?_; rintro e w1 ⟨rfl, rfl⟩
        go_wp2
        go_ret
        rw [Pk.dg_long most _ (Or.inr (by rw [hl.out]; omega))]
        exact ⟨rfl, rfl⟩
    · by_cases h0 : 1 ≤ s.size ∧ s.size ≤ 4
      · obtain ⟨h1, h4⟩ := h0
        have E : Hid (Pk.digs 0 s.data.toList = some n) := by
          have := HD.out
          rw [digs_end s n k (by omega)] at this
          exact this.symm
        clear hn
        go_wp2_with fail
        refine (in_yes _ _ _ _ (by omega) (by omega)).mono ?_; rintro e w1 ⟨rfl, rfl⟩
        by_cases hbig : most < n
        · go_wp2
          go_ret
          rw [Pk.dg_big most _ n E.out hbig]
          exact ⟨rfl, rfl⟩
        · by_cases hone : 1 < s.size
          · by_cases hz : (s[0].toNat : Int) = 48
            · go_wp2
              go_ret
              rw [Pk.dg_nought most _ (by rw [hl.out]; omega) ((head48 s (by omega)).2 hz)]
              exact ⟨rfl, rfl⟩
            · have hzb : ((s[0].toNat : Int) == 48) = false := beq_eq_false_iff_ne.2 hz
              go_wp2
              go_ret
              rw [Pk.dg_ok most _ n (by rw [hl.out]; omega) (by rw [hl.out]; omega) (fun ⟨_, e⟩ => hz ((head48 s (by omega)).1 e)) E.out (by omega)]
              exact ⟨rfl, rfl⟩
          · go_wp2
            go_ret
            rw [Pk.dg_ok most _ n (by rw [hl.out]; omega) (by rw [hl.out]; omega) (fun ⟨e, _⟩ => hone (by rw [hl.out] at e; omega)) E.out (by omega)]
            exact ⟨rfl, rfl⟩
      · go_wp2_with fail
        refine (in_no _ _ _ _ (by omega)).mono ?_; rintro e w1 ⟨rfl, rfl⟩
        go_wp2
        go_ret
        rw [Pk.dg_long most _ (by rw [hl.out]; omega)]
        exact ⟨rfl, rfl⟩

theorem strs_snoc (l : List (List UInt8)) (p : List UInt8) : strs (l ++ [p]) = strs l ++ [.string ⟨p.toArray⟩] := by unfold strs; simp
theorem strs_len (l : List (List UInt8)) : (strs l).length = l.length := by unfold strs; simp
theorem strs_set (ini : List (List UInt8)) (a b : List UInt8) : (strs (ini ++ [a])).set ini.length (.string ⟨b.toArray⟩) = strs (ini ++ [b]) := by
  rw [strs_snoc, strs_snoc, List.set_append_right _ _ (by rw [strs_len]; exact Nat.le_refl _), strs_len]
  simp
theorem strs_at (ini : List (List UInt8)) (a : List UInt8) : (strs (ini ++ [a]))[ini.length]? = some (.string ⟨a.toArray⟩) := by
  rw [strs_snoc, List.getElem?_append_right (by rw [strs_len]; exact Nat.le_refl _), strs_len]
  simp

theorem take_snoc (s : ByteArray) (k : Nat) (h : k < s.size) : s.data.toList.take (k + 1) = s.data.toList.take k ++ [s[k]] := by
  rw [List.take_succ_eq_append_getElem (by simpa using h)]; rfl

theorem cat_one (a : List UInt8) (s : ByteArray) (k : Nat) (h : k < s.size) : ((⟨a.toArray⟩ : ByteArray) ++ s.extract k (k + 1)) = ⟨(a ++ [s[k]]).toArray⟩ := by
  rw [Lib.extract_eq]
  apply ByteArray.ext
  rw [ByteArray.data_append]
  have e : List.take (k + 1 - k) (List.drop k s.data.toList) = [s[k]] := by
    rw [drop_of s k h, show k + 1 - k = 1 by omega]
    rfl
  rw [e]
  simp

theorem own_shape {w : World} {B m : Nat} {v : Value} {xs : List Value} (h : w.ownsRow B 9 1 v (m + 1) xs) : ∃ g cap, v = .slice (some ⟨g, 0, none⟩) (m + 1) cap ∧ B ≤ g ∧ m + 1 ≤ cap := by
  rcases h.2 with ⟨_, h'⟩ | ⟨g, cap, cur, h', hb, _, hc, _⟩
  · omega
  · exact ⟨g, cap, h', hb, hc⟩

set_option maxHeartbeats 2000000 in
set_option maxRecDepth 100000 in
theorem pieces_any (s : ByteArray) (c : UInt8) (w : World) (hm : s.size ≤ 2097152) :
    Calls Tryd.prog 29 #[.string s, .int .u8 (c.toNat : Int)] w fun e w' => ∃ v, e = .returned v ∧ w'.ownsRow w.heap.size 9 1 v (Pk.pieces c s.data.toList).length (strs (Pk.pieces c s.data.toList)) ∧ Below w.heap.size w w' := by
  obtain ⟨i0, hi, hz0, hz1, hz2⟩ := info_parts Tryd.info9
  go_enter Tryd.func29, Tryd.ntmps29
  go_wp2
  go_loopw [5, 6] (fun v i wr => ∃ k : Nat, k ≤ s.size ∧ i = .int .i64 k ∧ wr.ownsRow w.heap.size 9 1 v (Pk.pieces c (s.data.toList.take k)).length (strs (Pk.pieces c (s.data.toList.take k))) ∧ Below w.heap.size w wr) (fun _ i _ => s.size - (intOf i).toNat)
  case atStart => exact ⟨0, Nat.zero_le _, rfl, World.ownsRow_lit w #[.string ⟨#[]⟩] 1 (Nat.le_refl _) (by decide) rfl, (Below.refl _ _).alloc (Nat.le_refl _) _⟩
  case round =>
    obtain ⟨k, hk, rfl, hown, hbel⟩ := hrel
    obtain ⟨ini, last, hps, hll, hil⟩ := Pk.pieces_last c (s.data.toList.take k)
    rw [List.length_take] at hll hil
    have HP : Hid (Pk.pieces c (s.data.toList.take k) = ini ++ [last]) := hps
    rw [hps] at hown
    clear hps
    have hl1 : last.length ≤ 2097152 := by omega
    have hi1 : ini.length ≤ 2097152 := by omega
    clear hll hil
    by_cases hlt : k < s.size
    · have HT : Hid (s.data.toList.take (k + 1) = s.data.toList.take k ++ [s[k]]) := take_snoc s k hlt
      by_cases hx : s[k] = c
      · have hxb : ((s[k].toNat : Int) == (c.toNat : Int)) = true := by rw [hx]; simp
        have HX : Hid (s[k] = c) := hx
        clear hx
        rw [List.length_append, List.length_singleton] at hown
        go_wp2_with (at_builtin; refine wpList_append_own _ rfl _ _ 55 rfl w.heap.size 9 i0 (.string ⟨#[]⟩) 1 16 Tryd.underlying55 hi hz0 hz1 hz2 rfl (by decide) _ _ _ rfl (hown.alloc _) ⟨wr.heap.size, 0, none⟩ 1 1 [.string ⟨#[]⟩] rfl rfl ?c1 ?c2 ?c3 ?c4 ?c5 ?_)
        case c1 =>
          intro j u hj
          match j, hj with
          | 0, hj => simp at hj; subst hj; simp [Addr.add]
        case c2 => intro u hu; simp at hu; subst hu; rfl
        case c3 => unfold maxLen; omega
        case c4 => omega
        case c5 => have := hbel.size; simp; omega
        intro v' w1 hown' hgrow _
        have R1 := own_eq (ps := Pk.pieces c (s.data.toList.take (k + 1))) hown' (by rw [HT.out, Pk.pieces_snoc, HP.out, HX.out, Pk.step_hit]; simp) (by rw [HT.out, Pk.pieces_snoc, HP.out, HX.out, Pk.step_hit, strs_snoc (ini ++ [last])])
        have R2 := (hbel.alloc hbel.size (.cells #[.string ⟨#[]⟩] 9)).grown hgrow (by have := hbel.size; simp; omega) (fun k hk => (hown.lt k hk).1)
        clear hown' hgrow hown hbel
        go_wp2
        go_roundw
        case rel => exact ⟨k + 1, by omega, by go_num, R1, R2⟩
        case measure => simp [intOf]; omega
      · have hxb : ((s[k].toNat : Int) == (c.toNat : Int)) = false := by
          rw [beq_eq_false_iff_ne]
          intro e
          exact hx (UInt8.toNat_inj.1 (by omega))
        have HX : Hid (s[k] ≠ c) := hx
        clear hx
        rw [List.length_append, List.length_singleton] at hown
        obtain ⟨g, cap, rfl, hg, hcap⟩ := own_shape hown
        have hcell : wr.cell? ⟨g, ini.length, none⟩ = some (.string ⟨last.toArray⟩) := by
          rw [hown.cellAt ini.length (by omega), strs_at]
        have hfr : wr.frozen? ⟨g, ini.length, none⟩ = false := hown.frozenAt _
        have HS : Hid (((⟨last.toArray⟩ : ByteArray) ++ s.extract k (k + 1)) = ⟨(last ++ [s[k]]).toArray⟩) := cat_one last s k hlt
        have HO : Hid (wr.ownsRow w.heap.size 9 1 (.slice (some ⟨g, 0, none⟩) (ini.length + 1) cap) (ini.length + 1) (strs (ini ++ [last]))) := hown
        clear hown
        go_wp2_with fail
        go_region
        go_wp2
        go_roundw
        case rel =>
          rw [HS.out]
          have R1 := own_eq (ps := Pk.pieces c (s.data.toList.take (k + 1))) (HO.out.stored ini.length (.string ⟨(last ++ [s[k]]).toArray⟩)).1 (by rw [HT.out, Pk.pieces_snoc, HP.out, Pk.step_miss c _ _ _ HX.out]; simp) (by rw [HT.out, Pk.pieces_snoc, HP.out, Pk.step_miss c _ _ _ HX.out, strs_set])
          exact ⟨k + 1, by omega, by go_num, R1.drew, (hbel.setCell hg _).drew⟩
        case measure => simp [intOf]; omega
    · have HE : Hid (s.data.toList.take k = s.data.toList) := List.take_of_length_le (by rw [← Lib.size_eq]; omega)
      rw [← HP.out] at hown
      go_wp2
      go_ret
      rw [HE.out] at hown
      exact ⟨_, rfl, hown, hbel⟩

end Go.Proofs.YtejefincnjhlpaaDoor
