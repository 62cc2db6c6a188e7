/-
  strings.Split at a separator of one byte, parseRow and parseSet: what they return; no memory that was there turns.
-/
import Derived.Test.YthofdiacncgbkaaGreatDoorM2
import Derived.Shelf.Strings.Split
import Derived.Lib.IndexBytes
namespace Go.Proofs.YthofdiacncgbkaaGreatDoor
open Go.RowKit

theorem splitK_spl (c : UInt8) : ∀ (k : Nat) (s : List UInt8), s.count c = k → Lib.splitK [c] 0 k s = Mt.spl c s := by
  intro k
  induction k with
  | zero =>
    intro s h
    rw [Mt.spl_no c s (List.count_eq_zero.1 h)]
    rfl
  | succ k ih =>
    intro s h
    cases hb : Pk.brk c s with
    | none =>
      rw [List.count_eq_zero.2 (Pk.brk_none c s hb)] at h
      omega
    | some q =>
      obtain ⟨a, b⟩ := q
      obtain ⟨h1, h2⟩ := Pk.brk_some c s a b hb
      have hc : b.count c = k := by
        rw [h1, List.count_append, List.count_cons_self, List.count_eq_zero.2 h2] at h
        omega
      have hi : Lib.index s [c] = (a.length : Int) := by rw [Lib.index_one, h1, Pk.indexByte_at c a b h2]
      rw [Lib.splitK, hi, if_neg (by simp), h1, Mt.spl_cons c a b h2, ← ih b hc]
      have e1 : (a ++ c :: b).take ((a.length : Int).toNat + 0) = a := by simp
      have e2 : (a ++ c :: b).drop ((a.length : Int).toNat + [c].length) = b := by
        rw [Int.toNat_natCast, List.length_singleton, List.drop_append]
        simp
      rw [e1, e2]

theorem split_one (s : ByteArray) (c : UInt8) (w : World) (hs : s.size ≤ 300) :
    Calls Tryz.prog 29 #[.string s, .string ⟨#[c]⟩] w fun e w' => ∃ xs : List ByteArray, Hid (xs.map (·.data.toList) = Mt.spl c s.data.toList) ∧ xs.length ≤ 301 ∧ e = .returned (.slice (some ⟨w.heap.size, 0, none⟩) xs.length xs.length) ∧ w' = w.alloc (.cells (xs.map Value.string).toArray 9) := by
  have h1 : 1 ≤ (⟨#[c]⟩ : ByteArray).size := Nat.le_refl 1
  have hle := Lib.countB_le ⟨#[c]⟩ h1 s.size s (Nat.le_refl _)
  have hlen := Lib.splitB_all ⟨#[c]⟩ h1 0 _ s rfl
  have k := Any.strings_genSplit_core Tryz.lays221 (by kernel_rfl) s ⟨#[c]⟩ 0 (-1) (Lib.countB s ⟨#[c]⟩ + 1) w (by omega) h1 (Nat.zero_le _)
    (fun x cc _ => by
      have := Tryz.strings_Index_one x c (w.alloc (.cells cc 9))
      rw [← Lib.index_one] at this
      exact this)
    (by
      have := Tryz.strings_Count_one s c w
      refine this.mono fun e w' ⟨he, hw⟩ => ⟨?_, hw⟩
      rw [he]
      show _ = Ending.returned (Value.int .i64 ((Lib.count s.data.toList [c] : Nat) : Int))
      rw [Lib.count_one]
      rfl) (by decide) (by decide) (by rw [if_pos (by decide)]; omega)
  rw [Nat.add_sub_cancel, hlen] at k
  have e2 : Lib.cellsOf (Lib.splitB ⟨#[c]⟩ 0 (Lib.countB s ⟨#[c]⟩) s) (Lib.countB s ⟨#[c]⟩ + 1) = ((Lib.splitB ⟨#[c]⟩ 0 (Lib.countB s ⟨#[c]⟩) s).map Value.string).toArray := by rw [← hlen]; exact Lib.cellsOf_full _
  rw [e2] at k
  have hd : (Lib.splitB ⟨#[c]⟩ 0 (Lib.countB s ⟨#[c]⟩) s).map (·.data.toList) = Mt.spl c s.data.toList := by
    rw [Lib.splitB_data]
    show Lib.splitK [c] 0 (Lib.count s.data.toList [c]) s.data.toList = _
    exact splitK_spl c _ _ (Lib.count_one c _).symm
  rw [← hlen] at k
  generalize Lib.splitB ⟨#[c]⟩ 0 (Lib.countB s ⟨#[c]⟩) s = xs at *
  have K : Hid (Calls Tryz.prog 58 #[.string s, .string ⟨#[c]⟩, .int .i64 0, .int .i64 (-1)] w fun e w' => e = .returned (.slice (some ⟨w.heap.size, 0, none⟩) xs.length xs.length) ∧ w' = w.alloc (.cells (xs.map Value.string).toArray 9)) := k
  have hl2 : xs.length ≤ 301 := by omega
  clear k hle hlen e2 h1
  have HD : Hid (xs.map (·.data.toList) = Mt.spl c s.data.toList) := hd
  clear hd
  go_enter Tryz.func29, Tryz.ntmps29
  go_wp2_with fail
  refine K.out.mono ?_
  rintro e w' ⟨rfl, rfl⟩
  go_wp2_with fail
  go_ret
  exact ⟨xs, HD, hl2, rfl, rfl⟩

/-- What parseRow tells. -/
def rowN (l : List UInt8) : Nat × Nat × Bool :=
  match Pk.brk 45 l with
  | none => ((Pk.num l).getD 0, (Pk.num l).getD 0, (Pk.num l).isSome && (Pk.num l).isSome)
  | some (x, y) => ((Pk.num x).getD 0, (Pk.num y).getD 0, (Pk.num x).isSome && (Pk.num y).isSome)

theorem rowP_eq (size : Nat) (l : List UInt8) : Mt.rowP size l = if (rowN l).2.2 = true ∧ (rowN l).1 ≤ (rowN l).2.1 ∧ (rowN l).2.1 < size then some ((rowN l).1, (rowN l).2.1) else none := by
  unfold Mt.rowP rowN
  cases Pk.brk 45 l with
  | none =>
    simp only
    cases Pk.num l with
    | none => simp
    | some a => simp
  | some q =>
    obtain ⟨x, y⟩ := q
    simp only
    cases Pk.num x with
    | none => simp
    | some a =>
      cases Pk.num y with
      | none => simp
      | some b => simp

def rowV (q : Nat × Nat × Bool) : Value := .tuple #[.int .i64 (q.1 : Int), .int .i64 (q.2.1 : Int), .bool q.2.2]

set_option maxHeartbeats 1000000 in
theorem parseRow_any (s : ByteArray) (w : World) (hm : s.size ≤ 300) :
    Calls Tryz.prog 121 #[.string s] w fun e w' => e = .returned (rowV (rowN s.data.toList)) ∧ ∃ n, w' = w.drewN n := by
  have hmx : s.size ≤ maxLen := by unfold maxLen; omega
  unfold rowN
  cases hb : Pk.brk 45 s.data.toList with
  | none =>
    have C : Hid (∀ w, Calls Tryz.prog 9 #[.string s, .string ⟨#[45]⟩] w fun e w' => e = .returned (.tuple #[.string s, .string ⟨#[]⟩, .bool false]) ∧ ∃ n, w' = w.drewN n) := fun w => cut_none s 45 w hb
    have A : Hid (∀ w, Calls Tryz.prog 97 #[.string s] w fun e w' => e = .returned (numV (Pk.num s.data.toList)) ∧ w' = w) := fun w => number_any s w hmx
    clear hb
    simp only
    cases hn : Pk.num s.data.toList
    all_goals
      rw [hn] at A
      clear hn
      go_enter Tryz.func121, Tryz.ntmps121
      go_wp2_with fail
      refine (C.out _).mono ?_
      rintro e w1 ⟨rfl, n, rfl⟩
      go_wp2_with fail
      refine (A.out _).mono ?_
      rintro e w2 ⟨rfl, rfl⟩
      unfold numV
      go_wp2_with fail
      refine (A.out _).mono ?_
      rintro e w3 ⟨rfl, rfl⟩
      unfold numV
      go_wp2_with fail
      go_ret3
      exact ⟨rfl, n, rfl⟩
  | some q =>
    obtain ⟨x, y⟩ := q
    have hl := (Pk.brk_some 45 _ x y hb).1
    have hlen : s.size = x.length + (y.length + 1) := by rw [Lib.size_eq, hl]; simp
    have C : Hid (∀ w, Calls Tryz.prog 9 #[.string s, .string ⟨#[45]⟩] w fun e w' => e = .returned (.tuple #[.string ⟨x.toArray⟩, .string ⟨y.toArray⟩, .bool true]) ∧ ∃ n, w' = w.drewN n) := fun w => cut_some s 45 x y w hmx hb
    have A : Hid (∀ w, Calls Tryz.prog 97 #[.string ⟨x.toArray⟩] w fun e w' => e = .returned (numV (Pk.num x)) ∧ w' = w) := fun w => by
      have := number_any ⟨x.toArray⟩ w (by unfold maxLen; rw [Lib.size_eq]; simp; omega)
      simpa using this
    have B : Hid (∀ w, Calls Tryz.prog 97 #[.string ⟨y.toArray⟩] w fun e w' => e = .returned (numV (Pk.num y)) ∧ w' = w) := fun w => by
      have := number_any ⟨y.toArray⟩ w (by unfold maxLen; rw [Lib.size_eq]; simp; omega)
      simpa using this
    clear hb hl hlen
    simp only
    cases hn : Pk.num x
    all_goals
      rw [hn] at A
      clear hn
      go_enter Tryz.func121, Tryz.ntmps121
      go_wp2_with fail
      refine (C.out _).mono ?_
      rintro e w1 ⟨rfl, n, rfl⟩
      go_wp2_with fail
      refine (A.out _).mono ?_
      rintro e w2 ⟨rfl, rfl⟩
      unfold numV
      go_wp2_with fail
      refine (B.out _).mono ?_
      rintro e w3 ⟨rfl, rfl⟩
      unfold numV
      go_wp2_with fail
      go_ret3
      exact ⟨rfl, n, rfl⟩
end Go.Proofs.YthofdiacncgbkaaGreatDoor


