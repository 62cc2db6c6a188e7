/-
  The document's answer: In, Digits, Pieces.
-/
import Derived.Test.YtkckgoeemfjkkaaDoorM5
namespace Go.Proofs.YtkckgoeemfjkkaaDoor
open Go.RowKit

set_option maxHeartbeats 400000 in
theorem in_yes (n lo hi : Int) (w : World) (h0 : lo ≤ n) (h1 : n ≤ hi) : Calls Tryd.prog 12 #[.int .i64 n, .int .i64 lo, .int .i64 hi] w fun e w' => e = .returned (.bool true) ∧ w' = w := by
  go_enter Tryd.func12, Tryd.ntmps12
  go_wp2
  go_ret
  exact ⟨rfl, rfl⟩
set_option maxHeartbeats 400000 in
theorem in_no (n lo hi : Int) (w : World) (h : ¬ (lo ≤ n ∧ n ≤ hi)) : Calls Tryd.prog 12 #[.int .i64 n, .int .i64 lo, .int .i64 hi] w fun e w' => e = .returned (.bool false) ∧ w' = w := by
  by_cases h0 : lo ≤ n
  · have h1 : ¬ n ≤ hi := fun e => h ⟨h0, e⟩
    clear h
    go_enter Tryd.func12, Tryd.ntmps12
    go_wp2
    go_ret
    exact ⟨rfl, rfl⟩
  · clear h
    go_enter Tryd.func12, Tryd.ntmps12
    go_wp2
    go_ret
    exact ⟨rfl, rfl⟩


theorem head48 (s : ByteArray) (h : 0 < s.size) : s.data.toList.head? = some 48 ↔ (s[0].toNat : Int) = 48 := by
  rw [head_of s h]
  constructor
  · intro e
    have := Option.some.inj e
    rw [this]; rfl
  · intro e
    congr 1
    apply UInt8.toNat_inj.1
    have e2 : s[0].toNat = 48 := by omega
    rw [e2]; rfl

theorem strs_snoc (l : List (List UInt8)) (p : List UInt8) : strs (l ++ [p]) = strs l ++ [.string ⟨p.toArray⟩] := by unfold strs; simp
theorem strs_len (l : List (List UInt8)) : (strs l).length = l.length := by unfold strs; simp
theorem strs_set (ini : List (List UInt8)) (a b : List UInt8) : (strs (ini ++ [a])).set ini.length (.string ⟨b.toArray⟩) = strs (ini ++ [b]) := by
  rw [strs_snoc, strs_snoc, List.set_append_right _ _ (by rw [strs_len]; exact Nat.le_refl _), strs_len]
  simp
theorem strs_at (ini : List (List UInt8)) (a : List UInt8) : (strs (ini ++ [a]))[ini.length]? = some (.string ⟨a.toArray⟩) := by
  rw [strs_snoc, List.getElem?_append_right (by rw [strs_len]; exact Nat.le_refl _), strs_len]
  simp

theorem take_snoc (s : ByteArray) (k : Nat) (h : k < s.size) : s.data.toList.take (k + 1) = s.data.toList.take k ++ [s[k]] := by
  rw [List.take_succ_eq_append_getElem (by simpa using h)]; rfl

theorem cat_one (a : List UInt8) (s : ByteArray) (k : Nat) (h : k < s.size) : ((⟨a.toArray⟩ : ByteArray) ++ s.extract k (k + 1)) = ⟨(a ++ [s[k]]).toArray⟩ := by
  rw [Lib.extract_eq]
  apply ByteArray.ext
  rw [ByteArray.data_append]
  have e : List.take (k + 1 - k) (List.drop k s.data.toList) = [s[k]] := by
    rw [drop_of s k h, show k + 1 - k = 1 by omega]
    rfl
  rw [e]
  simp

theorem own_shape {w : World} {B m : Nat} {v : Value} {xs : List Value} (h : w.ownsRow B 9 1 v (m + 1) xs) : ∃ g cap, v = .slice (some ⟨g, 0, none⟩) (m + 1) cap ∧ B ≤ g ∧ m + 1 ≤ cap := by
  rcases h.2 with ⟨_, h'⟩ | ⟨g, cap, cur, h', hb, _, hc, _⟩
  · omega
  · exact ⟨g, cap, h', hb, hc⟩

end Go.Proofs.YtkckgoeemfjkkaaDoor


