/-
  Pieces of the document's answer: the pieces of a text between bytes of one sort, in a new slice; no memory that was there is turned.
-/
import Derived.Test.YtaceockdiicpaaaDoorRef2
namespace Go.Proofs.YtaceockdiicpaaaDoor
open Go.RowKit

/-- Texts, as the cells of a slice. -/
def strs (l : List (List UInt8)) : List Value := l.map fun p => .string ⟨p.toArray⟩
theorem strs_snoc (l : List (List UInt8)) (p : List UInt8) : strs (l ++ [p]) = strs l ++ [.string ⟨p.toArray⟩] := by unfold strs; simp
theorem strs_len (l : List (List UInt8)) : (strs l).length = l.length := by unfold strs; simp
theorem strs_set (ini : List (List UInt8)) (a b : List UInt8) : (strs (ini ++ [a])).set ini.length (.string ⟨b.toArray⟩) = strs (ini ++ [b]) := by
  rw [strs_snoc, strs_snoc, List.set_append_right _ _ (by rw [strs_len]; exact Nat.le_refl _), strs_len]
  simp
theorem strs_at (ini : List (List UInt8)) (a : List UInt8) : (strs (ini ++ [a]))[ini.length]? = some (.string ⟨a.toArray⟩) := by
  rw [strs_snoc, List.getElem?_append_right (by rw [strs_len]; exact Nat.le_refl _), strs_len]
  simp

theorem Tryd.info9 : (Tryd.prog.info? 9).map (fun i => (i.zero, i.size, i.bytes)) = some (some (.string ⟨#[]⟩), 1, 16) := by kernel_rfl

theorem take_snoc (s : ByteArray) (k : Nat) (h : k < s.size) : s.data.toList.take (k + 1) = s.data.toList.take k ++ [s[k]] := by
  rw [List.take_succ_eq_append_getElem (by simpa using h)]; rfl

theorem cat_one (a : List UInt8) (s : ByteArray) (k : Nat) (h : k < s.size) : ((⟨a.toArray⟩ : ByteArray) ++ s.extract k (k + 1)) = ⟨(a ++ [s[k]]).toArray⟩ := by
  rw [Lib.extract_eq]
  apply ByteArray.ext
  rw [ByteArray.data_append]
  have e : List.take (k + 1 - k) (List.drop k s.data.toList) = [s[k]] := by
    rw [drop_of s k h, show k + 1 - k = 1 by omega]
    rfl
  rw [e]
  simp

theorem own_eq {w : World} {B n : Nat} {v : Value} {xs : List Value} {ps : List (List UInt8)} (h : w.ownsRow B 9 1 v n xs) (hn : n = ps.length) (hx : xs = strs ps) : w.ownsRow B 9 1 v ps.length (strs ps) := by
  subst hn hx
  exact h
theorem own_shape {w : World} {B m : Nat} {v : Value} {xs : List Value} (h : w.ownsRow B 9 1 v (m + 1) xs) : ∃ g cap, v = .slice (some ⟨g, 0, none⟩) (m + 1) cap ∧ B ≤ g ∧ m + 1 ≤ cap := by
  rcases h.2 with ⟨_, h'⟩ | ⟨g, cap, cur, h', hb, _, hc, _⟩
  · omega
  · exact ⟨g, cap, h', hb, hc⟩

set_option maxHeartbeats 2000000 in
set_option maxRecDepth 100000 in
theorem pieces_any (s : ByteArray) (c : UInt8) (w : World) (hm : s.size ≤ 2097152) :
    Calls Tryd.prog 29 #[.string s, .int .u8 (c.toNat : Int)] w fun e w' => ∃ v, e = .returned v ∧ w'.ownsRow w.heap.size 9 1 v (Pk.pieces c s.data.toList).length (strs (Pk.pieces c s.data.toList)) ∧ Below w.heap.size w w' := by
  obtain ⟨i0, hi, hz0, hz1, hz2⟩ := info_parts Tryd.info9
  go_enter Tryd.func29, Tryd.ntmps29
  go_wp2
  go_loopw [5, 6] (fun v i wr => ∃ k : Nat, k ≤ s.size ∧ i = .int .i64 k ∧ wr.ownsRow w.heap.size 9 1 v (Pk.pieces c (s.data.toList.take k)).length (strs (Pk.pieces c (s.data.toList.take k))) ∧ Below w.heap.size w wr) (fun _ i _ => s.size - (intOf i).toNat)
  case atStart => exact ⟨0, Nat.zero_le _, rfl, World.ownsRow_lit w #[.string ⟨#[]⟩] 1 (Nat.le_refl _) (by decide) rfl, (Below.refl _ _).alloc (Nat.le_refl _) _⟩
  case round =>
    obtain ⟨k, hk, rfl, hown, hbel⟩ := hrel
    obtain ⟨ini, last, hps, hll, hil⟩ := Pk.pieces_last c (s.data.toList.take k)
    rw [List.length_take] at hll hil
    have HP : Hid (Pk.pieces c (s.data.toList.take k) = ini ++ [last]) := hps
    rw [hps] at hown
    clear hps
    have hl1 : last.length ≤ 2097152 := by omega
    have hi1 : ini.length ≤ 2097152 := by omega
    clear hll hil
    by_cases hlt : k < s.size
    · have HT : Hid (s.data.toList.take (k + 1) = s.data.toList.take k ++ [s[k]]) := take_snoc s k hlt
      by_cases hx : s[k] = c
      · have hxb : ((s[k].toNat : Int) == (c.toNat : Int)) = true := by rw [hx]; simp
        have HX : Hid (s[k] = c) := hx
        clear hx
        rw [List.length_append, List.length_singleton] at hown
        go_wp2_with (at_builtin; refine wpList_append_own _ rfl _ _ 55 rfl w.heap.size 9 i0 (.string ⟨#[]⟩) 1 16 Tryd.underlying55 hi hz0 hz1 hz2 rfl (by decide) _ _ _ rfl (hown.alloc _) ⟨wr.heap.size, 0, none⟩ 1 1 [.string ⟨#[]⟩] rfl rfl ?c1 ?c2 ?c3 ?c4 ?c5 ?_)
        case c1 =>
          intro j u hj
          match j, hj with
          | 0, hj => simp at hj; subst hj; simp [Addr.add]
        case c2 => intro u hu; simp at hu; subst hu; rfl
        case c3 => unfold maxLen; omega
        case c4 => omega
        case c5 => have := hbel.size; simp; omega
        intro v' w1 hown' hgrow _
        have R1 := own_eq (ps := Pk.pieces c (s.data.toList.take (k + 1))) hown' (by rw [HT.out, Pk.pieces_snoc, HP.out, HX.out, Pk.step_hit]; simp) (by rw [HT.out, Pk.pieces_snoc, HP.out, HX.out, Pk.step_hit, strs_snoc (ini ++ [last])])
        have R2 := (hbel.alloc hbel.size (.cells #[.string ⟨#[]⟩] 9)).grown hgrow (by have := hbel.size; simp; omega) (fun k hk => (hown.lt k hk).1)
        clear hown' hgrow hown hbel
        go_wp2
        go_roundw
        case rel => exact ⟨k + 1, by omega, by go_num, R1, R2⟩
        case measure => simp [intOf]; omega
      · have hxb : ((s[k].toNat : Int) == (c.toNat : Int)) = false := by
          rw [beq_eq_false_iff_ne]
          intro e
          exact hx (UInt8.toNat_inj.1 (by omega))
        have HX : Hid (s[k] ≠ c) := hx
        clear hx
        rw [List.length_append, List.length_singleton] at hown
        obtain ⟨g, cap, rfl, hg, hcap⟩ := own_shape hown
        have hcell : wr.cell? ⟨g, ini.length, none⟩ = some (.string ⟨last.toArray⟩) := by
          rw [hown.cellAt ini.length (by omega), strs_at]
        have hfr : wr.frozen? ⟨g, ini.length, none⟩ = false := hown.frozenAt _
        have HS : Hid (((⟨last.toArray⟩ : ByteArray) ++ s.extract k (k + 1)) = ⟨(last ++ [s[k]]).toArray⟩) := cat_one last s k hlt
        have HO : Hid (wr.ownsRow w.heap.size 9 1 (.slice (some ⟨g, 0, none⟩) (ini.length + 1) cap) (ini.length + 1) (strs (ini ++ [last]))) := hown
        clear hown
        go_wp2_with fail
        go_region
        go_wp2
        go_roundw
        case rel =>
          rw [HS.out]
          have R1 := own_eq (ps := Pk.pieces c (s.data.toList.take (k + 1))) (HO.out.stored ini.length (.string ⟨(last ++ [s[k]]).toArray⟩)).1 (by rw [HT.out, Pk.pieces_snoc, HP.out, Pk.step_miss c _ _ _ HX.out]; simp) (by rw [HT.out, Pk.pieces_snoc, HP.out, Pk.step_miss c _ _ _ HX.out, strs_set])
          exact ⟨k + 1, by omega, by go_num, R1.drew, (hbel.setCell hg _).drew⟩
        case measure => simp [intOf]; omega
    · have HE : Hid (s.data.toList.take k = s.data.toList) := List.take_of_length_le (by rw [← Lib.size_eq]; omega)
      rw [← HP.out] at hown
      go_wp2
      go_ret
      rw [HE.out] at hown
      exact ⟨_, rfl, hown, hbel⟩
end Go.Proofs.YtaceockdiicpaaaDoor
