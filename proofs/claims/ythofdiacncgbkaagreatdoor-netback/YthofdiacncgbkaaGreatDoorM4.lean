/-
  parseSet: what it returns; no memory that was there turns.
-/
import Derived.Test.YthofdiacncgbkaaGreatDoorM3
import Derived.Shelf.Strings.PiecesUse
namespace Go.Proofs.YthofdiacncgbkaaGreatDoor
open Go.RowKit

/-- What parseSet tells. -/
def setV (size : Nat) : Option Nat → Value
  | none => .tuple #[st 0 0, .bool false]
  | some z => .tuple #[st (z : Int) (size : Int), .bool true]

/-- Two cells that may be written lie in a block of their own. -/
def Pair (w : World) (n : Nat) (a b : Value) : Prop :=
  n < w.heap.size ∧ (w.cell? ⟨n, 0, none⟩ = some a ∧ w.cell? ⟨n, 1, none⟩ = some b) ∧ (w.frozen? ⟨n, 0, none⟩ = false ∧ w.frozen? ⟨n, 1, none⟩ = false)
theorem keepPair {W w' : World} {n : Nat} {a b : Value} (hb : Below W.heap.size W w') (h : Pair W n a b) : Pair w' n a b := by
  obtain ⟨h0, ⟨h1, h2⟩, k1, k2⟩ := h
  exact ⟨Nat.lt_of_lt_of_le h0 hb.size, ⟨(hb.cell (p := ⟨n, 0, none⟩) h0).trans h1, (hb.cell (p := ⟨n, 1, none⟩) h0).trans h2⟩, (hb.frozen (p := ⟨n, 0, none⟩) h0).trans k1, (hb.frozen (p := ⟨n, 1, none⟩) h0).trans k2⟩
theorem pair_new (w : World) (a b : Value) (t : TypeId) : Pair (w.alloc (.cells #[a, b] t)) w.heap.size a b :=
  ⟨by simp, ⟨by simp [go_sem], by simp [go_sem]⟩, by simp [go_sem], by simp [go_sem]⟩
theorem below_set2 {B b : Nat} {a w : World} (h : Below B a w) (hb : B ≤ b) (v0 v1 : Value) : Below B a ((w.setCell ⟨b, 0, none⟩ v0).setCell ⟨b, 1, none⟩ v1) :=
  (h.setCell (p := ⟨b, 0, none⟩) hb v0).setCell (p := ⟨b, 1, none⟩) hb v1
theorem below_drewN {B : Nat} {a w : World} (h : Below B a w) (n : Nat) : Below B a (w.drewN n) := ⟨h.os, h.tape, h.output, h.size, h.block⟩

/-- Texts lie in a block. -/
def Texts (w : World) (g : Nat) (xs : List ByteArray) : Prop := g < w.heap.size ∧ ∀ (j : Nat) x, xs[j]? = some x → w.cell? ⟨g, j, none⟩ = some (.string x)
theorem keepTexts {W w' : World} {g : Nat} {xs : List ByteArray} (hb : Below W.heap.size W w') (h : Texts W g xs) : Texts w' g xs :=
  ⟨Nat.lt_of_lt_of_le h.1 hb.size, fun j x hx => (hb.cell (p := ⟨g, j, none⟩) h.1).trans (h.2 j x hx)⟩
theorem texts_new (w : World) (xs : List ByteArray) (t : TypeId) : Texts (w.alloc (.cells (xs.map Value.string).toArray t)) w.heap.size xs :=
  ⟨by simp, fun j x hx => by
    have := Lib.pieces_cell w xs t j x hx
    simpa using this⟩

theorem spl_len (c : UInt8) (l : List UInt8) : ∀ p ∈ Mt.spl c l, p.length ≤ l.length := by
  induction l with
  | nil => intro p hp; simp [Mt.spl] at hp; simp [hp]
  | cons x r ih =>
    obtain ⟨h, t, e⟩ := Mt.spl_ne c r
    intro p hp
    unfold Mt.spl at hp
    rw [e] at hp ih
    split at hp
    · rcases List.mem_cons.1 hp with rfl | k
      · simp
      · have := ih p k; simp; omega
    · rcases List.mem_cons.1 hp with rfl | k
      · have := ih h (by simp); simp; omega
      · have := ih p (by simp [k]); simp; omega

theorem or_mask (z a b : Nat) (hz : z < 2 ^ 16) (hab : a ≤ b) (hb : b < 16) :
    Go.bits .or .i64 (z : Int) (wrap64 (wrap64 (2 ^ (b + 1)) - wrap64 (2 ^ a))) = ((z ||| Mt.mask (a, b) : Nat) : Int) := by
  have hm := Mt.mask_le (a, b) 16 hb
  have p1 : 2 ^ (b + 1) ≤ 2 ^ 16 := Nat.pow_le_pow_right (by omega) (by omega)
  have p2 : 2 ^ a ≤ 2 ^ (b + 1) := Nat.pow_le_pow_right (by omega) (by omega)
  have e1 : wrap64 ((2 : Int) ^ (b + 1)) = ((2 ^ (b + 1) : Nat) : Int) := by
    rw [show (2 : Int) ^ (b + 1) = ((2 ^ (b + 1) : Nat) : Int) by simp, ← IntWalk.i64_left]
    generalize 2 ^ (b + 1) = q at *
    exact IntWalk.i64_in _ (by omega)
  have e2 : wrap64 ((2 : Int) ^ a) = ((2 ^ a : Nat) : Int) := by
    rw [show (2 : Int) ^ a = ((2 ^ a : Nat) : Int) by simp, ← IntWalk.i64_left]
    have : 2 ^ a ≤ 2 ^ 16 := Nat.le_trans p2 p1
    generalize 2 ^ a = q at *
    exact IntWalk.i64_in _ (by omega)
  have e3 : wrap64 (((2 ^ (b + 1) : Nat) : Int) - ((2 ^ a : Nat) : Int)) = ((Mt.mask (a, b) : Nat) : Int) := by
    have : ((2 ^ (b + 1) : Nat) : Int) - ((2 ^ a : Nat) : Int) = ((Mt.mask (a, b) : Nat) : Int) := by unfold Mt.mask; simp only; omega
    rw [this, ← IntWalk.i64_left]; exact IntWalk.i64_in _ (by omega)
  rw [e1, e2, e3]
  generalize Mt.mask (a, b) = m at *
  have hle : z ||| m < 2 ^ 16 := Nat.or_lt_two_pow hz hm
  have hmm : (BitVec.ofInt 64 (z : Int) ||| BitVec.ofInt 64 (m : Int)).toNat = z ||| m := by
    rw [show BitVec.ofInt 64 (z : Int) = BitVec.ofNat 64 z by simp, show BitVec.ofInt 64 (m : Int) = BitVec.ofNat 64 m by simp, BitVec.toNat_or, BitVec.toNat_ofNat, BitVec.toNat_ofNat, Nat.mod_eq_of_lt (by omega), Nat.mod_eq_of_lt (by omega)]
  show IntKind.i64.wrap ((BitVec.ofInt 64 (z : Int) ||| BitVec.ofInt 64 (m : Int)).toNat : Int) = _
  rw [hmm, IntWalk.i64_in _ (by omega)]

set_option maxHeartbeats 2000000 in
theorem parseSet_loop (s : ByteArray) (size : Nat) (w : World) (hsz : size ≤ 16) (hs : s.size ≤ 300)
    (e1 : (s.toList == [42]) = false) (e2 : (s.toList == [45]) = false) :
    Calls Tryz.prog 94 #[.string s, .int .i64 (size : Int)] w fun e w' => e = .returned (setV size (Mt.acc size 0 (Mt.spl 44 s.data.toList))) ∧ Below w.heap.size w w' := by
  have SP : Hid (∀ w, Calls Tryz.prog 29 #[.string s, .string ⟨#[44]⟩] w fun e w' => ∃ xs : List ByteArray, Hid (xs.map (·.data.toList) = Mt.spl 44 s.data.toList) ∧ xs.length ≤ 301 ∧ e = .returned (.slice (some ⟨w.heap.size, 0, none⟩) xs.length xs.length) ∧ w' = w.alloc (.cells (xs.map Value.string).toArray 9)) := fun w => split_one s 44 w hs
  have B0 := pair_new w (.int .i64 0) (.int .i64 0) 103
  have D0 := Below.alloc' (Below.refl w.heap.size w) (.cells #[.int .i64 0, .int .i64 0] 103)
  go_enter Tryz.func94, Tryz.ntmps94
  go_wp2_with fail
  refine (SP.out _).mono ?_
  rintro e w1 ⟨xs, hx, hl, rfl, rfl⟩
  have T1 := texts_new (w.alloc (.cells #[.int .i64 0, .int .i64 0] 103)) xs 9
  have D1 := Below.alloc' D0 (.cells (xs.map Value.string).toArray 9)
  have B1 := keepPair ((Below.refl _ _).alloc (Nat.le_refl _) (.cells (xs.map Value.string).toArray 9)) B0
  rw [show (w.alloc (.cells #[.int .i64 0, .int .i64 0] 103)).heap.size = w.heap.size + 1 by simp] at T1
  clear B0 D0
  generalize (w.alloc (.cells #[.int .i64 0, .int .i64 0] 103)).alloc (.cells (xs.map Value.string).toArray 9) = w1 at *
  have hpl : ∀ (j : Nat) x, xs[j]? = some x → x.size ≤ 300 := fun j x hj => by
    have := spl_len 44 s.data.toList x.data.toList (by rw [← hx.out]; exact List.mem_map.2 ⟨x, List.mem_of_getElem? hj, rfl⟩)
    rw [← Lib.size_eq, ← Lib.size_eq] at this
    omega
  have HP : Hid (∀ (j : Nat) x, xs[j]? = some x → x.size ≤ 300) := hpl
  clear hpl
  go_wp2_with fail
  go_loopw [27, 6] (fun i b wr => ∃ k z : Nat, i = .int .i64 (k : Int) ∧ b = .int .i64 (z : Int) ∧ k ≤ xs.length ∧ z < 2 ^ size ∧ Mt.acc size z ((xs.map (·.data.toList)).drop k) = Mt.acc size 0 (Mt.spl 44 s.data.toList) ∧ Below w1.heap.size w1 wr) (fun i _ _ => xs.length - (intOf i).toNat)
  case atStart => exact ⟨0, 0, rfl, rfl, Nat.zero_le _, Nat.two_pow_pos _, by rw [List.drop_zero, hx.out], Below.refl _ _⟩
  case round =>
    obtain ⟨k, z, rfl, rfl, hk, hz, ha, hbw⟩ := hrel
    have hz16 : z < 2 ^ 16 := Nat.lt_of_lt_of_le hz (Nat.pow_le_pow_right (by omega) hsz)
    have HA : Hid (Mt.acc size z ((xs.map (·.data.toList)).drop k) = Mt.acc size 0 (Mt.spl 44 s.data.toList)) := ha
    have HZ : Hid (z < 2 ^ size) := hz
    clear ha hz
    by_cases hlt : k < xs.length
    · obtain ⟨x, hxk⟩ : ∃ x, xs[k]? = some x := ⟨xs[k], List.getElem?_eq_getElem hlt⟩
      have hc := (keepTexts hbw T1).2 k x hxk
      have hb2 := keepPair hbw B1
      have D2 := D1.trans (hbw.mono D1.size)
      have PR : Hid (∀ w, Calls Tryz.prog 121 #[.string x] w fun e w' => e = .returned (rowV (rowN x.data.toList)) ∧ ∃ n, w' = w.drewN n) := fun w => parseRow_any x w (HP.out k x hxk)
      have hdrop : (xs.map (·.data.toList)).drop k = x.data.toList :: (xs.map (·.data.toList)).drop (k + 1) := by
        rw [List.drop_eq_getElem_cons (by simpa using hlt)]
        congr 1
        rw [List.getElem_map]
        rw [List.getElem?_eq_getElem hlt] at hxk
        rw [Option.some.inj hxk]
      have HQ : Hid (Mt.acc size z ((xs.map (·.data.toList)).drop k) = match Mt.rowP size x.data.toList with
          | none => none
          | some p => Mt.acc size (z ||| Mt.mask p) ((xs.map (·.data.toList)).drop (k + 1))) := by
        show _ = _
        rw [hdrop, Mt.acc]
        cases Mt.rowP size x.data.toList <;> rfl
      have HR := rowP_eq size x.data.toList
      clear hdrop T1 hx HP
      generalize hq : rowN x.data.toList = q at *
      obtain ⟨fa, la, ok⟩ := q
      clear hq
      simp only at HR
      by_cases hgood : ok = true ∧ fa ≤ la ∧ la < size
      · rw [if_pos hgood] at HR
        obtain ⟨rfl, hle, hls⟩ := hgood
        have HV : Hid (Mt.acc size 0 (Mt.spl 44 s.data.toList) = Mt.acc size (z ||| Mt.mask (fa, la)) ((xs.map (·.data.toList)).drop (k + 1))) := by
          show _ = _
          rw [← HA.out, HQ.out, HR]
        have HM : Hid ((Go.bits .or .i64 (z : Int) (wrap64 (wrap64 (2 ^ (la + 1)) - wrap64 (2 ^ fa))) = ((z ||| Mt.mask (fa, la) : Nat) : Int))) := or_mask z fa la hz16 hle (by omega)
        have HL : Hid (z ||| Mt.mask (fa, la) < 2 ^ size) := Nat.or_lt_two_pow HZ.out (Mt.mask_le (fa, la) size hls)
        clear HA HQ HR HZ
        go_wp2_with fail
        refine (PR.out _).mono ?_
        rintro e w2 ⟨rfl, n, rfl⟩
        unfold rowV
        go_wp2_with fail
        go_region
        all_goals
          go_wp2_with fail
          go_roundw
          case rel => exact ⟨k + 1, z ||| Mt.mask (fa, la), congrArg (Value.int .i64) (by omega), congrArg (Value.int .i64) HM.out, by omega, HL.out, HV.out.symm, (below_drewN hbw n).drew⟩
          case measure => simp [intOf]; omega
      · rw [if_neg hgood] at HR
        have HV : Hid (Mt.acc size 0 (Mt.spl 44 s.data.toList) = none) := by
          show _ = _
          rw [← HA.out, HQ.out, HR]
        obtain ⟨l0, ⟨k0, k1⟩, f0, f1⟩ := hb2
        clear HA HQ HR HZ
        cases ok
        · go_wp2_with fail
          refine (PR.out _).mono ?_
          rintro e w2 ⟨rfl, n, rfl⟩
          unfold rowV
          go_wp2_with fail
          exact bodyPost_ret (v := .tuple #[st 0 0, .bool false]) (by simp [results, Tryz.results94, go_sem, k0, k1]) rfl ⟨by rw [HV.out]; rfl, below_set2 (below_drewN D2 n) (Nat.le_refl _) _ _⟩
        · by_cases hle : fa ≤ la
          · have hls : size ≤ la := by
              rcases Nat.lt_or_ge la size with h | h
              · exact absurd ⟨rfl, hle, h⟩ hgood
              · exact h
            clear hgood
            go_wp2_with fail
            refine (PR.out _).mono ?_
            rintro e w2 ⟨rfl, n, rfl⟩
            unfold rowV
            go_wp2_with fail
            exact bodyPost_ret (v := .tuple #[st 0 0, .bool false]) (by simp [results, Tryz.results94, go_sem, k0, k1]) rfl ⟨by rw [HV.out]; rfl, below_set2 (below_drewN D2 n) (Nat.le_refl _) _ _⟩
          · clear hgood
            go_wp2_with fail
            refine (PR.out _).mono ?_
            rintro e w2 ⟨rfl, n, rfl⟩
            unfold rowV
            go_wp2_with fail
            exact bodyPost_ret (v := .tuple #[st 0 0, .bool false]) (by simp [results, Tryz.results94, go_sem, k0, k1]) rfl ⟨by rw [HV.out]; rfl, below_set2 (below_drewN D2 n) (Nat.le_refl _) _ _⟩
    · have hb2 := keepPair hbw B1
      have D2 := D1.trans (hbw.mono D1.size)
      have HV : Hid (Mt.acc size 0 (Mt.spl 44 s.data.toList) = some z) := by
        show _ = _
        rw [← HA.out, List.drop_of_length_le (by simp; omega), Mt.acc]
      obtain ⟨l0, ⟨k0, k1⟩, f0, f1⟩ := hb2
      clear HA HZ HP T1 hx
      go_wp2_with fail
      exact bodyPost_ret (v := .tuple #[st (z : Int) (size : Int), .bool true]) (by simp [results, Tryz.results94, go_sem, k0, k1]) rfl ⟨by rw [HV.out]; rfl, below_set2 D2 (Nat.le_refl _) _ _⟩

set_option maxHeartbeats 1000000 in
theorem parseSet_star (size : Nat) (hsz : size = 16 ∨ size = 8) (w : World) :
    Calls Tryz.prog 94 #[.string ⟨#[42]⟩, .int .i64 (size : Int)] w fun e w' => e = .returned (setV size (some (2 ^ size - 1))) ∧ Below w.heap.size w w' := by
  have D0 := Below.alloc' (Below.refl w.heap.size w) (.cells #[.int .i64 ((2 ^ size - 1 : Nat) : Int), .int .i64 (size : Int)] 103)
  rcases hsz with rfl | rfl
  all_goals
    go_enter Tryz.func94, Tryz.ntmps94
    go_wp2_with fail
    exact bodyPost_ret (by simp [results, Tryz.results94, go_sem]; rfl) rfl ⟨rfl, D0⟩
set_option maxHeartbeats 1000000 in
theorem parseSet_dash (size : Nat) (w : World) :
    Calls Tryz.prog 94 #[.string ⟨#[45]⟩, .int .i64 (size : Int)] w fun e w' => e = .returned (setV size (some 0)) ∧ Below w.heap.size w w' := by
  have D0 := Below.alloc' (Below.refl w.heap.size w) (.cells #[.int .i64 0, .int .i64 (size : Int)] 103)
  go_enter Tryz.func94, Tryz.ntmps94
  go_wp2_with fail
  exact bodyPost_ret (v := .tuple #[st 0 (size : Int), .bool true]) (by simp [results, Tryz.results94, go_sem]) rfl ⟨rfl, D0⟩

theorem bytes_of (s : ByteArray) (l : List UInt8) (h : s.data.toList = l) : s = ⟨l.toArray⟩ := by
  subst h; cases s; simp
theorem parseSet_any (s : ByteArray) (size : Nat) (w : World) (hsz : size = 16 ∨ size = 8) (hs : s.size ≤ 300) :
    Calls Tryz.prog 94 #[.string s, .int .i64 (size : Int)] w fun e w' => e = .returned (setV size (Mt.setP size s.data.toList)) ∧ Below w.heap.size w w' := by
  unfold Mt.setP
  by_cases h1 : s.data.toList = [42]
  · rw [if_pos h1, bytes_of s _ h1]
    exact parseSet_star size hsz w
  · rw [if_neg h1]
    by_cases h2 : s.data.toList = [45]
    · rw [if_pos h2, bytes_of s _ h2]
      exact parseSet_dash size w
    · rw [if_neg h2]
      exact parseSet_loop s size w (by omega) hs (by rw [Lib.toList_data]; simpa using h1) (by rw [Lib.toList_data]; simpa using h2)
end Go.Proofs.YthofdiacncgbkaaGreatDoor


