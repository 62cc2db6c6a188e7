/-
  strings.Cut at a separator of one byte, and number.Parse: what they return; no memory that was there turns.
-/
import Derived.Test.YtnkgjkoncglfjaaGreatDoorM1
import Derived.Test.YtnkgjkoncglfjaaGreatDoorShelf
import Derived.Test.YtnkgjkoncglfjaaGreatDoorZA
import Derived.Shelf.Strings.Split
import Derived.Lib.IndexBytes
import Derived.Shelf.Strings.PiecesUse
namespace Go.Proofs.YtnkgjkoncglfjaaGreatDoor
open Go.RowKit

theorem extract_hit (s : ByteArray) (c : UInt8) (a b : List UInt8) (h : s.data.toList = a ++ c :: b) :
    s.extract 0 a.length = ⟨a.toArray⟩ ∧ s.extract (a.length + 1) s.size = ⟨b.toArray⟩ := by
  have hs : s.size = a.length + (b.length + 1) := by rw [Lib.size_eq, h]; simp
  constructor
  · rw [Lib.extract_eq, h]; simp
  · rw [Lib.extract_eq, h, hs]
    have e1 : List.drop (a.length + 1) (a ++ c :: b) = b := by
      rw [List.drop_append]; simp
    rw [e1, List.take_of_length_le (by omega)]

set_option maxHeartbeats 1000000 in
theorem cut0_none (s : ByteArray) (c : UInt8) (w : World) (h : Pk.brk c s.data.toList = none) :
    Calls Tryz.prog 20 #[.string s, .string ⟨#[c]⟩] w fun e w' => e = .returned (.tuple #[.string s, .string ⟨#[]⟩, .bool false]) ∧ ∃ n, w' = w.drewN n := by
  have K : Hid (∀ w, Calls Tryz.prog 38 #[.string s, .string ⟨#[c]⟩] w fun e w' => e = .returned (.int .i64 (-1)) ∧ w' = w) := fun w => by
    have := Tryz.stringslite_Index_one s c w
    rw [Pk.indexByte_none c _ h] at this
    exact this
  clear h
  go_enter Tryz.func20, Tryz.ntmps20
  go_wp2_with fail
  refine (K.out _).mono ?_
  rintro e w1 ⟨rfl, rfl⟩
  go_wp2
  go_ret3
  exact ⟨rfl, 0, rfl⟩

theorem ret_cut {x y x' y' : ByteArray} {b : Bool} (h : x = x') (k : y = y') : Ending.returned (.tuple #[.string x, .string y, .bool b]) = .returned (.tuple #[.string x', .string y', .bool b]) := by rw [h, k]

set_option maxHeartbeats 1000000 in
theorem cut0_some (s : ByteArray) (c : UInt8) (a b : List UInt8) (w : World) (hm : s.size ≤ maxLen) (h : Pk.brk c s.data.toList = some (a, b)) :
    Calls Tryz.prog 20 #[.string s, .string ⟨#[c]⟩] w fun e w' => e = .returned (.tuple #[.string ⟨a.toArray⟩, .string ⟨b.toArray⟩, .bool true]) ∧ ∃ n, w' = w.drewN n := by
  obtain ⟨hl, hn⟩ := Pk.brk_some c _ a b h
  have K : Hid (∀ w, Calls Tryz.prog 38 #[.string s, .string ⟨#[c]⟩] w fun e w' => e = .returned (.int .i64 (a.length : Int)) ∧ w' = w) := fun w => by
    have := Tryz.stringslite_Index_one s c w
    rw [hl, Pk.indexByte_at c a b hn] at this
    exact this
  have E : Hid (s.extract 0 a.length = ⟨a.toArray⟩ ∧ s.extract (a.length + 1) s.size = ⟨b.toArray⟩) := extract_hit s c a b hl
  have hs : s.size = a.length + (b.length + 1) := by rw [Lib.size_eq, hl]; simp
  unfold maxLen at hm
  generalize a.length = i at *
  have c1 : (0 : Int) ≤ ↑i := by omega
  have c2 : (↑i : Int) ≤ ↑s.size := by omega
  have c3 : (0 : Int) ≤ ↑i + 1 := by omega
  have c4 : (↑i + 1 : Int) ≤ ↑s.size := by omega
  have hi : i < s.size := by omega
  clear h hl hs
  go_enter Tryz.func20, Tryz.ntmps20
  go_wp2_with fail
  refine (K.out _).mono ?_
  rintro e w1 ⟨rfl, rfl⟩
  go_wp2_with fail
  go_quiet (fail)
  go_wp2
  go_ret3
  exact ⟨ret_cut E.out.1 E.out.2, nq, rfl⟩

set_option maxHeartbeats 1000000 in
theorem cut_none (s : ByteArray) (c : UInt8) (w : World) (h : Pk.brk c s.data.toList = none) :
    Calls Tryz.prog 7 #[.string s, .string ⟨#[c]⟩] w fun e w' => e = .returned (.tuple #[.string s, .string ⟨#[]⟩, .bool false]) ∧ ∃ n, w' = w.drewN n := by
  have K : Hid (Pk.brk c s.data.toList = none) := h
  clear h
  go_enter Tryz.func7, Tryz.ntmps7
  go_wp2_with fail
  refine (cut0_none s c _ K.out).mono ?_
  rintro e w1 ⟨rfl, n, rfl⟩
  go_wp2
  go_ret3
  exact ⟨rfl, n, rfl⟩

set_option maxHeartbeats 1000000 in
theorem cut_some (s : ByteArray) (c : UInt8) (a b : List UInt8) (w : World) (hm : s.size ≤ maxLen) (h : Pk.brk c s.data.toList = some (a, b)) :
    Calls Tryz.prog 7 #[.string s, .string ⟨#[c]⟩] w fun e w' => e = .returned (.tuple #[.string ⟨a.toArray⟩, .string ⟨b.toArray⟩, .bool true]) ∧ ∃ n, w' = w.drewN n := by
  have K : Hid (Pk.brk c s.data.toList = some (a, b)) := h
  have M : Hid (s.size ≤ maxLen) := hm
  clear h hm
  go_enter Tryz.func7, Tryz.ntmps7
  go_wp2_with fail
  refine (cut0_some s c a b _ M.out K.out).mono ?_
  rintro e w1 ⟨rfl, n, rfl⟩
  go_wp2
  go_ret3
  exact ⟨rfl, n, rfl⟩

theorem head_of (s : ByteArray) (h : 0 < s.size) : s.data.toList.head? = some s[0] := by
  rw [List.head?_eq_getElem?, List.getElem?_eq_getElem (by rw [← Lib.size_eq]; exact h)]
  rfl
theorem drop_of (s : ByteArray) (k : Nat) (h : k < s.size) : s.data.toList.drop k = s[k] :: s.data.toList.drop (k + 1) := by
  rw [List.drop_eq_getElem_cons (by rw [← Lib.size_eq]; exact h)]
  rfl

set_option maxHeartbeats 1000000 in
theorem number_empty (s : ByteArray) (w : World) (h : s.size = 0) :
    Calls Tryz.prog 77 #[.string s] w fun e w' => e = .returned (.tuple #[.int .i64 0, .bool false]) ∧ w' = w := by
  obtain rfl : s = ⟨#[]⟩ := by
    apply ByteArray.ext
    exact Array.eq_empty_of_size_eq_zero h
  clear h
  go_enter Tryz.func77, Tryz.ntmps77
  go_wp2
  go_ret2
  exact ⟨rfl, rfl⟩

theorem not_empty (s : ByteArray) (h : 0 < s.size) : ¬ s.toList = [] := by
  intro e
  rw [Lib.toList_data] at e
  have k := Lib.size_eq s
  rw [e, List.length_nil] at k
  omega

set_option maxHeartbeats 1000000 in
theorem number_long (s : ByteArray) (w : World) (h : 4 < s.size) (hm : s.size ≤ maxLen) :
    Calls Tryz.prog 77 #[.string s] w fun e w' => e = .returned (.tuple #[.int .i64 0, .bool false]) ∧ w' = w := by
  have hne := not_empty s (by omega)
  unfold maxLen at hm
  go_enter Tryz.func77, Tryz.ntmps77
  go_wp2
  go_ret2
  exact ⟨rfl, rfl⟩

set_option maxHeartbeats 1000000 in
theorem number_nought (s : ByteArray) (w : World) (h : 1 < s.size) (h4 : s.size ≤ 4) (hz : (s[0].toNat : Int) = 48) :
    Calls Tryz.prog 77 #[.string s] w fun e w' => e = .returned (.tuple #[.int .i64 0, .bool false]) ∧ w' = w := by
  have hne := not_empty s (by omega)
  go_enter Tryz.func77, Tryz.ntmps77
  go_wp2
  go_ret2
  exact ⟨rfl, rfl⟩

theorem digs_step (s : ByteArray) (n k : Nat) (h : k < s.size) (h1 : 48 ≤ (s[k].toNat : Int)) (h2 : (s[k].toNat : Int) ≤ 57) :
    Pk.digs n (s.data.toList.drop k) = Pk.digs (10 * n + (s[k].toNat - 48)) (s.data.toList.drop (k + 1)) := by
  rw [drop_of s k h, Pk.digs, if_pos (by omega)]
theorem digs_stop (s : ByteArray) (n k : Nat) (h : k < s.size) (h1 : (s[k].toNat : Int) < 48 ∨ 57 < (s[k].toNat : Int)) :
    Pk.digs n (s.data.toList.drop k) = none := by
  rw [drop_of s k h, Pk.digs, if_neg (by omega)]
theorem digs_end (s : ByteArray) (n k : Nat) (h : s.size ≤ k) : Pk.digs n (s.data.toList.drop k) = some n := by
  rw [List.drop_of_length_le (by rw [← Lib.size_eq]; exact h)]
  rfl

/-- What parseNumber tells. -/
def numV (o : Option Nat) : Value := .tuple #[.int .i64 (o.getD 0 : Nat), .bool o.isSome]

set_option maxHeartbeats 1000000 in
theorem number_loop (s : ByteArray) (w : World) (h0 : 0 < s.size) (h4 : s.size ≤ 4) (hz : 1 < s.size → (s[0].toNat : Int) ≠ 48) :
    Calls Tryz.prog 77 #[.string s] w fun e w' => e = .returned (numV (Pk.digs 0 s.data.toList)) ∧ w' = w := by
  have hne := not_empty s h0
  have hne2 : s.toList.isEmpty = false := by rw [List.isEmpty_eq_false_iff]; exact hne
  have h4b : decide (4 < (s.size : Int)) = false := by simp; omega
  by_cases h1 : 1 < s.size
  all_goals
    try have hz0 : ((s[0].toNat : Int) == 48) = false := beq_eq_false_iff_ne.2 (hz h1)
    clear hz
    go_enter Tryz.func77, Tryz.ntmps77
    go_wp2
    go_loop [4, 25] (fun a i => ∃ k n : Nat, k ≤ s.size ∧ i = .int .i64 k ∧ a = .int .i64 n ∧ n < 10 ^ k ∧ Pk.digs n (s.data.toList.drop k) = Pk.digs 0 s.data.toList) (fun _ i => s.size - (intOf i).toNat)
    case atStart => exact ⟨0, 0, by omega, rfl, rfl, by simp, by simp⟩
    case round =>
      obtain ⟨k, n, hk, rfl, rfl, hn, hd⟩ := hrel
      have HD : Hid (Pk.digs n (s.data.toList.drop k) = Pk.digs 0 s.data.toList) := hd
      clear hd
      by_cases hlt : k < s.size
      · have hp : 10 ^ k ≤ 10 ^ 3 := Nat.pow_le_pow_right (by omega) (by omega)
        have hn2 : n ≤ 999 := by omega
        have HN : Hid (n < 10 ^ k) := hn
        clear hn hp
        by_cases hlo : 48 ≤ (s[k].toNat : Int)
        · by_cases hhi : (s[k].toNat : Int) ≤ 57
          · have S : Hid (Pk.digs n (s.data.toList.drop k) = Pk.digs (10 * n + (s[k].toNat - 48)) (s.data.toList.drop (k + 1))) := digs_step s n k hlt hlo hhi
            go_wp2
            go_round
            case rel => exact ⟨k + 1, 10 * n + (s[k].toNat - 48), by omega, congrArg (Value.int .i64) (by omega), congrArg (Value.int .i64) (by omega), by have := HN.out; rw [Nat.pow_succ]; omega, S.out.symm.trans HD.out⟩
            case measure => simp [intOf]; omega
          · go_wp2
            go_ret2
            rw [← HD.out, digs_stop s n k hlt (Or.inr (by omega))]
            exact ⟨rfl, rfl⟩
        · go_wp2
          go_ret2
          rw [← HD.out, digs_stop s n k hlt (Or.inl (by omega))]
          exact ⟨rfl, rfl⟩
      · go_wp2
        go_ret2
        rw [← HD.out, digs_end s n k (by omega)]
        exact ⟨rfl, rfl⟩

theorem number_any (s : ByteArray) (w : World) (hm : s.size ≤ maxLen) :
    Calls Tryz.prog 77 #[.string s] w fun e w' => e = .returned (numV (Pk.num s.data.toList)) ∧ w' = w := by
  have hl : s.data.toList.length = s.size := (Lib.size_eq s).symm
  unfold Pk.num
  by_cases h0 : s.size = 0
  · rw [if_pos (Or.inl (by omega))]
    exact number_empty s w h0
  by_cases h4 : 4 < s.size
  · rw [if_pos (Or.inr (Or.inl (by omega)))]
    exact number_long s w h4 hm
  have hh := head_of s (by omega)
  by_cases hz : 1 < s.size ∧ s[0] = 48
  · rw [if_pos (Or.inr (Or.inr ⟨by omega, by rw [hh, hz.2]⟩))]
    exact number_nought s w hz.1 (by omega) (by rw [hz.2]; rfl)
  · rw [if_neg (by
      rintro (h | h | ⟨h, k⟩)
      · omega
      · omega
      · rw [hh] at k
        exact hz ⟨by omega, Option.some.inj k⟩)]
    refine number_loop s w (by omega) (by omega) (fun h e => hz ⟨h, ?_⟩)
    apply UInt8.toNat_inj.1
    have e2 : s[0].toNat = 48 := by omega
    rw [e2]; rfl
end Go.Proofs.YtnkgjkoncglfjaaGreatDoor



namespace Go.Proofs.YtnkgjkoncglfjaaGreatDoor
open Go.RowKit

theorem splitK_spl (c : UInt8) : ∀ (k : Nat) (s : List UInt8), s.count c = k → Lib.splitK [c] 0 k s = Mt.spl c s := by
  intro k
  induction k with
  | zero =>
    intro s h
    rw [Mt.spl_no c s (List.count_eq_zero.1 h)]
    rfl
  | succ k ih =>
    intro s h
    cases hb : Pk.brk c s with
    | none =>
      rw [List.count_eq_zero.2 (Pk.brk_none c s hb)] at h
      omega
    | some q =>
      obtain ⟨a, b⟩ := q
      obtain ⟨h1, h2⟩ := Pk.brk_some c s a b hb
      have hc : b.count c = k := by
        rw [h1, List.count_append, List.count_cons_self, List.count_eq_zero.2 h2] at h
        omega
      have hi : Lib.index s [c] = (a.length : Int) := by rw [Lib.index_one, h1, Pk.indexByte_at c a b h2]
      rw [Lib.splitK, hi, if_neg (by simp), h1, Mt.spl_cons c a b h2, ← ih b hc]
      have e1 : (a ++ c :: b).take ((a.length : Int).toNat + 0) = a := by simp
      have e2 : (a ++ c :: b).drop ((a.length : Int).toNat + [c].length) = b := by
        rw [Int.toNat_natCast, List.length_singleton, List.drop_append]
        simp
      rw [e1, e2]

theorem split_one (s : ByteArray) (c : UInt8) (w : World) (hs : s.size ≤ 300) :
    Calls Tryz.prog 21 #[.string s, .string ⟨#[c]⟩] w fun e w' => ∃ xs : List ByteArray, Hid (xs.map (·.data.toList) = Mt.spl c s.data.toList) ∧ xs.length ≤ 301 ∧ e = .returned (.slice (some ⟨w.heap.size, 0, none⟩) xs.length xs.length) ∧ w' = w.alloc (.cells (xs.map Value.string).toArray 9) := by
  have h1 : 1 ≤ (⟨#[c]⟩ : ByteArray).size := Nat.le_refl 1
  have hle := Lib.countB_le ⟨#[c]⟩ h1 s.size s (Nat.le_refl _)
  have hlen := Lib.splitB_all ⟨#[c]⟩ h1 0 _ s rfl
  have k := Any.strings_genSplit_core Tryz.lays221 (by kernel_rfl) s ⟨#[c]⟩ 0 (-1) (Lib.countB s ⟨#[c]⟩ + 1) w (by omega) h1 (Nat.zero_le _)
    (fun x cc _ => by
      have := Tryz.strings_Index_one x c (w.alloc (.cells cc 9))
      rw [← Lib.index_one] at this
      exact this)
    (by
      have := Tryz.strings_Count_one s c w
      refine this.mono fun e w' ⟨he, hw⟩ => ⟨?_, hw⟩
      rw [he]
      show _ = Ending.returned (Value.int .i64 ((Lib.count s.data.toList [c] : Nat) : Int))
      rw [Lib.count_one]
      rfl) (by decide) (by decide) (by rw [if_pos (by decide)]; omega)
  rw [Nat.add_sub_cancel, hlen] at k
  have e2 : Lib.cellsOf (Lib.splitB ⟨#[c]⟩ 0 (Lib.countB s ⟨#[c]⟩) s) (Lib.countB s ⟨#[c]⟩ + 1) = ((Lib.splitB ⟨#[c]⟩ 0 (Lib.countB s ⟨#[c]⟩) s).map Value.string).toArray := by rw [← hlen]; exact Lib.cellsOf_full _
  rw [e2] at k
  have hd : (Lib.splitB ⟨#[c]⟩ 0 (Lib.countB s ⟨#[c]⟩) s).map (·.data.toList) = Mt.spl c s.data.toList := by
    rw [Lib.splitB_data]
    show Lib.splitK [c] 0 (Lib.count s.data.toList [c]) s.data.toList = _
    exact splitK_spl c _ _ (Lib.count_one c _).symm
  rw [← hlen] at k
  generalize Lib.splitB ⟨#[c]⟩ 0 (Lib.countB s ⟨#[c]⟩) s = xs at *
  have K : Hid (Calls Tryz.prog 39 #[.string s, .string ⟨#[c]⟩, .int .i64 0, .int .i64 (-1)] w fun e w' => e = .returned (.slice (some ⟨w.heap.size, 0, none⟩) xs.length xs.length) ∧ w' = w.alloc (.cells (xs.map Value.string).toArray 9)) := k
  have hl2 : xs.length ≤ 301 := by omega
  clear k hle hlen e2 h1
  have HD : Hid (xs.map (·.data.toList) = Mt.spl c s.data.toList) := hd
  clear hd
  go_enter Tryz.func21, Tryz.ntmps21
  go_wp2_with fail
  refine K.out.mono ?_
  rintro e w' ⟨rfl, rfl⟩
  go_wp2_with fail
  go_ret
  exact ⟨xs, HD, hl2, rfl, rfl⟩

/-- What parseRow tells. -/
def rowN (l : List UInt8) : Nat × Nat × Bool :=
  match Pk.brk 45 l with
  | none => ((Pk.num l).getD 0, (Pk.num l).getD 0, (Pk.num l).isSome && (Pk.num l).isSome)
  | some (x, y) => ((Pk.num x).getD 0, (Pk.num y).getD 0, (Pk.num x).isSome && (Pk.num y).isSome)

theorem rowP_eq (size : Nat) (l : List UInt8) : Mt.rowP size l = if (rowN l).2.2 = true ∧ (rowN l).1 ≤ (rowN l).2.1 ∧ (rowN l).2.1 < size then some ((rowN l).1, (rowN l).2.1) else none := by
  unfold Mt.rowP rowN
  cases Pk.brk 45 l with
  | none =>
    simp only
    cases Pk.num l with
    | none => simp
    | some a => simp
  | some q =>
    obtain ⟨x, y⟩ := q
    simp only
    cases Pk.num x with
    | none => simp
    | some a =>
      cases Pk.num y with
      | none => simp
      | some b => simp

def rowV (q : Nat × Nat × Bool) : Value := .tuple #[.int .i64 (q.1 : Int), .int .i64 (q.2.1 : Int), .bool q.2.2]

set_option maxHeartbeats 1000000 in
theorem parseRow_any (s : ByteArray) (w : World) (hm : s.size ≤ 300) :
    Calls Tryz.prog 96 #[.string s] w fun e w' => e = .returned (rowV (rowN s.data.toList)) ∧ ∃ n, w' = w.drewN n := by
  have hmx : s.size ≤ maxLen := by unfold maxLen; omega
  unfold rowN
  cases hb : Pk.brk 45 s.data.toList with
  | none =>
    have C : Hid (∀ w, Calls Tryz.prog 7 #[.string s, .string ⟨#[45]⟩] w fun e w' => e = .returned (.tuple #[.string s, .string ⟨#[]⟩, .bool false]) ∧ ∃ n, w' = w.drewN n) := fun w => cut_none s 45 w hb
    have A : Hid (∀ w, Calls Tryz.prog 77 #[.string s] w fun e w' => e = .returned (numV (Pk.num s.data.toList)) ∧ w' = w) := fun w => number_any s w hmx
    clear hb
    simp only
    cases hn : Pk.num s.data.toList
    all_goals
      rw [hn] at A
      clear hn
      go_enter Tryz.func96, Tryz.ntmps96
      go_wp2_with fail
      refine (C.out _).mono ?_
      rintro e w1 ⟨rfl, n, rfl⟩
      go_wp2_with fail
      refine (A.out _).mono ?_
      rintro e w2 ⟨rfl, rfl⟩
      unfold numV
      go_wp2_with fail
      refine (A.out _).mono ?_
      rintro e w3 ⟨rfl, rfl⟩
      unfold numV
      go_wp2_with fail
      go_ret3
      exact ⟨rfl, n, rfl⟩
  | some q =>
    obtain ⟨x, y⟩ := q
    have hl := (Pk.brk_some 45 _ x y hb).1
    have hlen : s.size = x.length + (y.length + 1) := by rw [Lib.size_eq, hl]; simp
    have C : Hid (∀ w, Calls Tryz.prog 7 #[.string s, .string ⟨#[45]⟩] w fun e w' => e = .returned (.tuple #[.string ⟨x.toArray⟩, .string ⟨y.toArray⟩, .bool true]) ∧ ∃ n, w' = w.drewN n) := fun w => cut_some s 45 x y w hmx hb
    have A : Hid (∀ w, Calls Tryz.prog 77 #[.string ⟨x.toArray⟩] w fun e w' => e = .returned (numV (Pk.num x)) ∧ w' = w) := fun w => by
      have := number_any ⟨x.toArray⟩ w (by unfold maxLen; rw [Lib.size_eq]; simp; omega)
      simpa using this
    have B : Hid (∀ w, Calls Tryz.prog 77 #[.string ⟨y.toArray⟩] w fun e w' => e = .returned (numV (Pk.num y)) ∧ w' = w) := fun w => by
      have := number_any ⟨y.toArray⟩ w (by unfold maxLen; rw [Lib.size_eq]; simp; omega)
      simpa using this
    clear hb hl hlen
    simp only
    cases hn : Pk.num x
    all_goals
      rw [hn] at A
      clear hn
      go_enter Tryz.func96, Tryz.ntmps96
      go_wp2_with fail
      refine (C.out _).mono ?_
      rintro e w1 ⟨rfl, n, rfl⟩
      go_wp2_with fail
      refine (A.out _).mono ?_
      rintro e w2 ⟨rfl, rfl⟩
      unfold numV
      go_wp2_with fail
      refine (B.out _).mono ?_
      rintro e w3 ⟨rfl, rfl⟩
      unfold numV
      go_wp2_with fail
      go_ret3
      exact ⟨rfl, n, rfl⟩
end Go.Proofs.YtnkgjkoncglfjaaGreatDoor



namespace Go.Proofs.YtnkgjkoncglfjaaGreatDoor
open Go.RowKit

/-- What parseSet tells. -/
def setV (size : Nat) : Option Nat → Value
  | none => .tuple #[st 0 0, .bool false]
  | some z => .tuple #[st (z : Int) (size : Int), .bool true]

/-- Two cells that may be written lie in a block of their own. -/
def Pair (w : World) (n : Nat) (a b : Value) : Prop :=
  n < w.heap.size ∧ (w.cell? ⟨n, 0, none⟩ = some a ∧ w.cell? ⟨n, 1, none⟩ = some b) ∧ (w.frozen? ⟨n, 0, none⟩ = false ∧ w.frozen? ⟨n, 1, none⟩ = false)
theorem keepPair {W w' : World} {n : Nat} {a b : Value} (hb : Below W.heap.size W w') (h : Pair W n a b) : Pair w' n a b := by
  obtain ⟨h0, ⟨h1, h2⟩, k1, k2⟩ := h
  exact ⟨Nat.lt_of_lt_of_le h0 hb.size, ⟨(hb.cell (p := ⟨n, 0, none⟩) h0).trans h1, (hb.cell (p := ⟨n, 1, none⟩) h0).trans h2⟩, (hb.frozen (p := ⟨n, 0, none⟩) h0).trans k1, (hb.frozen (p := ⟨n, 1, none⟩) h0).trans k2⟩
theorem pair_new (w : World) (a b : Value) (t : TypeId) : Pair (w.alloc (.cells #[a, b] t)) w.heap.size a b :=
  ⟨by simp, ⟨by simp [go_sem], by simp [go_sem]⟩, by simp [go_sem], by simp [go_sem]⟩
theorem below_set2 {B b : Nat} {a w : World} (h : Below B a w) (hb : B ≤ b) (v0 v1 : Value) : Below B a ((w.setCell ⟨b, 0, none⟩ v0).setCell ⟨b, 1, none⟩ v1) :=
  (h.setCell (p := ⟨b, 0, none⟩) hb v0).setCell (p := ⟨b, 1, none⟩) hb v1
theorem below_drewN {B : Nat} {a w : World} (h : Below B a w) (n : Nat) : Below B a (w.drewN n) := ⟨h.os, h.tape, h.output, h.size, h.block⟩

/-- Texts lie in a block. -/
def Texts (w : World) (g : Nat) (xs : List ByteArray) : Prop := g < w.heap.size ∧ ∀ (j : Nat) x, xs[j]? = some x → w.cell? ⟨g, j, none⟩ = some (.string x)
theorem keepTexts {W w' : World} {g : Nat} {xs : List ByteArray} (hb : Below W.heap.size W w') (h : Texts W g xs) : Texts w' g xs :=
  ⟨Nat.lt_of_lt_of_le h.1 hb.size, fun j x hx => (hb.cell (p := ⟨g, j, none⟩) h.1).trans (h.2 j x hx)⟩
theorem texts_new (w : World) (xs : List ByteArray) (t : TypeId) : Texts (w.alloc (.cells (xs.map Value.string).toArray t)) w.heap.size xs :=
  ⟨by simp, fun j x hx => by
    have := Lib.pieces_cell w xs t j x hx
    simpa using this⟩

theorem spl_len (c : UInt8) (l : List UInt8) : ∀ p ∈ Mt.spl c l, p.length ≤ l.length := by
  induction l with
  | nil => intro p hp; simp [Mt.spl] at hp; simp [hp]
  | cons x r ih =>
    obtain ⟨h, t, e⟩ := Mt.spl_ne c r
    intro p hp
    unfold Mt.spl at hp
    rw [e] at hp ih
    split at hp
    · rcases List.mem_cons.1 hp with rfl | k
      · simp
      · have := ih p k; simp; omega
    · rcases List.mem_cons.1 hp with rfl | k
      · have := ih h (by simp); simp; omega
      · have := ih p (by simp [k]); simp; omega

theorem or_mask (z a b : Nat) (hz : z < 2 ^ 16) (hab : a ≤ b) (hb : b < 16) :
    Go.bits .or .i64 (z : Int) (wrap64 (wrap64 (2 ^ (b + 1)) - wrap64 (2 ^ a))) = ((z ||| Mt.mask (a, b) : Nat) : Int) := by
  have hm := Mt.mask_le (a, b) 16 hb
  have p1 : 2 ^ (b + 1) ≤ 2 ^ 16 := Nat.pow_le_pow_right (by omega) (by omega)
  have p2 : 2 ^ a ≤ 2 ^ (b + 1) := Nat.pow_le_pow_right (by omega) (by omega)
  have e1 : wrap64 ((2 : Int) ^ (b + 1)) = ((2 ^ (b + 1) : Nat) : Int) := by
    rw [show (2 : Int) ^ (b + 1) = ((2 ^ (b + 1) : Nat) : Int) by simp, ← IntWalk.i64_left]
    generalize 2 ^ (b + 1) = q at *
    exact IntWalk.i64_in _ (by omega)
  have e2 : wrap64 ((2 : Int) ^ a) = ((2 ^ a : Nat) : Int) := by
    rw [show (2 : Int) ^ a = ((2 ^ a : Nat) : Int) by simp, ← IntWalk.i64_left]
    have : 2 ^ a ≤ 2 ^ 16 := Nat.le_trans p2 p1
    generalize 2 ^ a = q at *
    exact IntWalk.i64_in _ (by omega)
  have e3 : wrap64 (((2 ^ (b + 1) : Nat) : Int) - ((2 ^ a : Nat) : Int)) = ((Mt.mask (a, b) : Nat) : Int) := by
    have : ((2 ^ (b + 1) : Nat) : Int) - ((2 ^ a : Nat) : Int) = ((Mt.mask (a, b) : Nat) : Int) := by unfold Mt.mask; simp only; omega
    rw [this, ← IntWalk.i64_left]; exact IntWalk.i64_in _ (by omega)
  rw [e1, e2, e3]
  generalize Mt.mask (a, b) = m at *
  have hle : z ||| m < 2 ^ 16 := Nat.or_lt_two_pow hz hm
  have hmm : (BitVec.ofInt 64 (z : Int) ||| BitVec.ofInt 64 (m : Int)).toNat = z ||| m := by
    rw [show BitVec.ofInt 64 (z : Int) = BitVec.ofNat 64 z by simp, show BitVec.ofInt 64 (m : Int) = BitVec.ofNat 64 m by simp, BitVec.toNat_or, BitVec.toNat_ofNat, BitVec.toNat_ofNat, Nat.mod_eq_of_lt (by omega), Nat.mod_eq_of_lt (by omega)]
  show IntKind.i64.wrap ((BitVec.ofInt 64 (z : Int) ||| BitVec.ofInt 64 (m : Int)).toNat : Int) = _
  rw [hmm, IntWalk.i64_in _ (by omega)]

set_option maxHeartbeats 2000000 in
theorem parseSet_loop (s : ByteArray) (size : Nat) (w : World) (hsz : size ≤ 16) (hs : s.size ≤ 300)
    (e1 : (s.toList == [42]) = false) (e2 : (s.toList == [45]) = false) :
    Calls Tryz.prog 71 #[.string s, .int .i64 (size : Int)] w fun e w' => e = .returned (setV size (Mt.acc size 0 (Mt.spl 44 s.data.toList))) ∧ Below w.heap.size w w' := by
  have SP : Hid (∀ w, Calls Tryz.prog 21 #[.string s, .string ⟨#[44]⟩] w fun e w' => ∃ xs : List ByteArray, Hid (xs.map (·.data.toList) = Mt.spl 44 s.data.toList) ∧ xs.length ≤ 301 ∧ e = .returned (.slice (some ⟨w.heap.size, 0, none⟩) xs.length xs.length) ∧ w' = w.alloc (.cells (xs.map Value.string).toArray 9)) := fun w => split_one s 44 w hs
  have B0 := pair_new w (.int .i64 0) (.int .i64 0) 106
  have D0 := Below.alloc' (Below.refl w.heap.size w) (.cells #[.int .i64 0, .int .i64 0] 106)
  go_enter Tryz.func71, Tryz.ntmps71
  go_wp2_with fail
  refine (SP.out _).mono ?_
  rintro e w1 ⟨xs, hx, hl, rfl, rfl⟩
  have T1 := texts_new (w.alloc (.cells #[.int .i64 0, .int .i64 0] 106)) xs 9
  have D1 := Below.alloc' D0 (.cells (xs.map Value.string).toArray 9)
  have B1 := keepPair ((Below.refl _ _).alloc (Nat.le_refl _) (.cells (xs.map Value.string).toArray 9)) B0
  rw [show (w.alloc (.cells #[.int .i64 0, .int .i64 0] 106)).heap.size = w.heap.size + 1 by simp] at T1
  clear B0 D0
  generalize (w.alloc (.cells #[.int .i64 0, .int .i64 0] 106)).alloc (.cells (xs.map Value.string).toArray 9) = w1 at *
  have hpl : ∀ (j : Nat) x, xs[j]? = some x → x.size ≤ 300 := fun j x hj => by
    have := spl_len 44 s.data.toList x.data.toList (by rw [← hx.out]; exact List.mem_map.2 ⟨x, List.mem_of_getElem? hj, rfl⟩)
    rw [← Lib.size_eq, ← Lib.size_eq] at this
    omega
  have HP : Hid (∀ (j : Nat) x, xs[j]? = some x → x.size ≤ 300) := hpl
  clear hpl
  go_wp2_with fail
  go_loopw [27, 6] (fun i b wr => ∃ k z : Nat, i = .int .i64 (k : Int) ∧ b = .int .i64 (z : Int) ∧ k ≤ xs.length ∧ z < 2 ^ size ∧ Mt.acc size z ((xs.map (·.data.toList)).drop k) = Mt.acc size 0 (Mt.spl 44 s.data.toList) ∧ Below w1.heap.size w1 wr) (fun i _ _ => xs.length - (intOf i).toNat)
  case atStart => exact ⟨0, 0, rfl, rfl, Nat.zero_le _, Nat.two_pow_pos _, by rw [List.drop_zero, hx.out], Below.refl _ _⟩
  case round =>
    obtain ⟨k, z, rfl, rfl, hk, hz, ha, hbw⟩ := hrel
    have hz16 : z < 2 ^ 16 := Nat.lt_of_lt_of_le hz (Nat.pow_le_pow_right (by omega) hsz)
    have HA : Hid (Mt.acc size z ((xs.map (·.data.toList)).drop k) = Mt.acc size 0 (Mt.spl 44 s.data.toList)) := ha
    have HZ : Hid (z < 2 ^ size) := hz
    clear ha hz
    by_cases hlt : k < xs.length
    · obtain ⟨x, hxk⟩ : ∃ x, xs[k]? = some x := ⟨xs[k], List.getElem?_eq_getElem hlt⟩
      have hc := (keepTexts hbw T1).2 k x hxk
      have hb2 := keepPair hbw B1
      have D2 := D1.trans (hbw.mono D1.size)
      have PR : Hid (∀ w, Calls Tryz.prog 96 #[.string x] w fun e w' => e = .returned (rowV (rowN x.data.toList)) ∧ ∃ n, w' = w.drewN n) := fun w => parseRow_any x w (HP.out k x hxk)
      have hdrop : (xs.map (·.data.toList)).drop k = x.data.toList :: (xs.map (·.data.toList)).drop (k + 1) := by
        rw [List.drop_eq_getElem_cons (by simpa using hlt)]
        congr 1
        rw [List.getElem_map]
        rw [List.getElem?_eq_getElem hlt] at hxk
        rw [Option.some.inj hxk]
      have HQ : Hid (Mt.acc size z ((xs.map (·.data.toList)).drop k) = match Mt.rowP size x.data.toList with
          | none => none
          | some p => Mt.acc size (z ||| Mt.mask p) ((xs.map (·.data.toList)).drop (k + 1))) := by
        show _ = _
        rw [hdrop, Mt.acc]
        cases Mt.rowP size x.data.toList <;> rfl
      have HR := rowP_eq size x.data.toList
      clear hdrop T1 hx HP
      generalize hq : rowN x.data.toList = q at *
      obtain ⟨fa, la, ok⟩ := q
      clear hq
      simp only at HR
      by_cases hgood : ok = true ∧ fa ≤ la ∧ la < size
      · rw [if_pos hgood] at HR
        obtain ⟨rfl, hle, hls⟩ := hgood
        have HV : Hid (Mt.acc size 0 (Mt.spl 44 s.data.toList) = Mt.acc size (z ||| Mt.mask (fa, la)) ((xs.map (·.data.toList)).drop (k + 1))) := by
          show _ = _
          rw [← HA.out, HQ.out, HR]
        have HM : Hid ((Go.bits .or .i64 (z : Int) (wrap64 (wrap64 (2 ^ (la + 1)) - wrap64 (2 ^ fa))) = ((z ||| Mt.mask (fa, la) : Nat) : Int))) := or_mask z fa la hz16 hle (by omega)
        have HL : Hid (z ||| Mt.mask (fa, la) < 2 ^ size) := Nat.or_lt_two_pow HZ.out (Mt.mask_le (fa, la) size hls)
        clear HA HQ HR HZ
        go_wp2_with fail
        refine (PR.out _).mono ?_
        rintro e w2 ⟨rfl, n, rfl⟩
        unfold rowV
        go_wp2_with fail
        go_region
        all_goals
          go_wp2_with fail
          go_roundw
          case rel => exact ⟨k + 1, z ||| Mt.mask (fa, la), congrArg (Value.int .i64) (by omega), congrArg (Value.int .i64) HM.out, by omega, HL.out, HV.out.symm, (below_drewN hbw n).drew⟩
          case measure => simp [intOf]; omega
      · rw [if_neg hgood] at HR
        have HV : Hid (Mt.acc size 0 (Mt.spl 44 s.data.toList) = none) := by
          show _ = _
          rw [← HA.out, HQ.out, HR]
        obtain ⟨l0, ⟨k0, k1⟩, f0, f1⟩ := hb2
        clear HA HQ HR HZ
        cases ok
        · go_wp2_with fail
          refine (PR.out _).mono ?_
          rintro e w2 ⟨rfl, n, rfl⟩
          unfold rowV
          go_wp2_with fail
          exact bodyPost_ret (v := .tuple #[st 0 0, .bool false]) (by simp [results, Tryz.results71, go_sem, k0, k1]) rfl ⟨by rw [HV.out]; rfl, below_set2 (below_drewN D2 n) (Nat.le_refl _) _ _⟩
        · by_cases hle : fa ≤ la
          · have hls : size ≤ la := by
              rcases Nat.lt_or_ge la size with h | h
              · exact absurd ⟨rfl, hle, h⟩ hgood
              · exact h
            clear hgood
            go_wp2_with fail
            refine (PR.out _).mono ?_
            rintro e w2 ⟨rfl, n, rfl⟩
            unfold rowV
            go_wp2_with fail
            exact bodyPost_ret (v := .tuple #[st 0 0, .bool false]) (by simp [results, Tryz.results71, go_sem, k0, k1]) rfl ⟨by rw [HV.out]; rfl, below_set2 (below_drewN D2 n) (Nat.le_refl _) _ _⟩
          · clear hgood
            go_wp2_with fail
            refine (PR.out _).mono ?_
            rintro e w2 ⟨rfl, n, rfl⟩
            unfold rowV
            go_wp2_with fail
            exact bodyPost_ret (v := .tuple #[st 0 0, .bool false]) (by simp [results, Tryz.results71, go_sem, k0, k1]) rfl ⟨by rw [HV.out]; rfl, below_set2 (below_drewN D2 n) (Nat.le_refl _) _ _⟩
    · have hb2 := keepPair hbw B1
      have D2 := D1.trans (hbw.mono D1.size)
      have HV : Hid (Mt.acc size 0 (Mt.spl 44 s.data.toList) = some z) := by
        show _ = _
        rw [← HA.out, List.drop_of_length_le (by simp; omega), Mt.acc]
      obtain ⟨l0, ⟨k0, k1⟩, f0, f1⟩ := hb2
      clear HA HZ HP T1 hx
      go_wp2_with fail
      exact bodyPost_ret (v := .tuple #[st (z : Int) (size : Int), .bool true]) (by simp [results, Tryz.results71, go_sem, k0, k1]) rfl ⟨by rw [HV.out]; rfl, below_set2 D2 (Nat.le_refl _) _ _⟩

set_option maxHeartbeats 1000000 in
theorem parseSet_star (size : Nat) (hsz : size = 16 ∨ size = 8) (w : World) :
    Calls Tryz.prog 71 #[.string ⟨#[42]⟩, .int .i64 (size : Int)] w fun e w' => e = .returned (setV size (some (2 ^ size - 1))) ∧ Below w.heap.size w w' := by
  have D0 := Below.alloc' (Below.refl w.heap.size w) (.cells #[.int .i64 ((2 ^ size - 1 : Nat) : Int), .int .i64 (size : Int)] 106)
  rcases hsz with rfl | rfl
  all_goals
    go_enter Tryz.func71, Tryz.ntmps71
    go_wp2_with fail
    exact bodyPost_ret (by simp [results, Tryz.results71, go_sem]; rfl) rfl ⟨rfl, D0⟩
set_option maxHeartbeats 1000000 in
theorem parseSet_dash (size : Nat) (w : World) :
    Calls Tryz.prog 71 #[.string ⟨#[45]⟩, .int .i64 (size : Int)] w fun e w' => e = .returned (setV size (some 0)) ∧ Below w.heap.size w w' := by
  have D0 := Below.alloc' (Below.refl w.heap.size w) (.cells #[.int .i64 0, .int .i64 (size : Int)] 106)
  go_enter Tryz.func71, Tryz.ntmps71
  go_wp2_with fail
  exact bodyPost_ret (v := .tuple #[st 0 (size : Int), .bool true]) (by simp [results, Tryz.results71, go_sem]) rfl ⟨rfl, D0⟩

theorem bytes_of (s : ByteArray) (l : List UInt8) (h : s.data.toList = l) : s = ⟨l.toArray⟩ := by
  subst h; cases s; simp
theorem parseSet_any (s : ByteArray) (size : Nat) (w : World) (hsz : size = 16 ∨ size = 8) (hs : s.size ≤ 300) :
    Calls Tryz.prog 71 #[.string s, .int .i64 (size : Int)] w fun e w' => e = .returned (setV size (Mt.setP size s.data.toList)) ∧ Below w.heap.size w w' := by
  unfold Mt.setP
  by_cases h1 : s.data.toList = [42]
  · rw [if_pos h1, bytes_of s _ h1]
    exact parseSet_star size hsz w
  · rw [if_neg h1]
    by_cases h2 : s.data.toList = [45]
    · rw [if_pos h2, bytes_of s _ h2]
      exact parseSet_dash size w
    · rw [if_neg h2]
      exact parseSet_loop s size w (by omega) hs (by rw [Lib.toList_data]; simpa using h1) (by rw [Lib.toList_data]; simpa using h2)
end Go.Proofs.YtnkgjkoncglfjaaGreatDoor


